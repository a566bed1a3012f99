/-
  A layout that came in.
-/
import Derived.Test.YtpdeohmgjblkeaaGrB
import Derived.Test.YtpdeohmgjblkeaaLayV
import Derived.Lib.SmallJoins
namespace Go.Proofs.Ytpdeohmgjblkeaa
open Go.ChangeShapes Go.WideShapes Go.ChangeAt Go.RowKit

theorem open_lay {H : Type} {enc : TypeId × Value → H} {P : Program} {w : World} {base : Nat} {r : Reach} {b0 : Nat} {t : TypeId} {f0 f1 f2 : Field} {v : Value} {d : DataW H} {ps : List MemPlace} {spare : Nat → Bool} {held : Bool}
    (hs : P.underlying t = some (.struct #[f0, f1, f2])) (hone : Deep.oneCellFields P #[f0, f1, f2] = true) (hC : P.cellsOf t = 3) (e0 : P.underlying f0.type = some (.int .i64)) (e1 : P.underlying f1.type = some (.int .i64)) (e2 : P.underlying f2.type = some (.int .u64))
    (hv : Value.okWide P w r b0 t v) (h : DataW.Trod enc P w base spare held t v d ps) : ∃ l : Lay14, v = .agg l.val ∧ l.merge < 18446744073709551616 := by
  obtain ⟨c0, c1, c2, y0, y1, y2, m, rfl, rfl, rfl, hy0, hy1, hy2⟩ := Joins.open_agg3 hs hone hC hv h
  obtain ⟨a, ha, _, _⟩ := DataW.trod_int e0 hy0
  obtain ⟨b, hb, _, _⟩ := DataW.trod_int e1 hy1
  obtain ⟨c, hc, _, hw⟩ := DataW.trod_int e2 hy2
  simp at ha hb hc
  subst ha; subst hb; subst hc
  have h2 := bounds_u64 hw
  obtain ⟨n, rfl⟩ := Int.eq_ofNat_of_zero_le h2.1
  exact ⟨⟨a, b, n⟩, rfl, by show n < _; omega⟩

end Go.Proofs.Ytpdeohmgjblkeaa
