/-
  An inode that came in.
-/
import Derived.Test.YtcdbligdcikphaaGrE
import Derived.Test.YtcdbligdcikphaaGrB
namespace Go.Proofs.Ytcdbligdcikphaa
open Go.ChangeShapes Go.WideShapes Go.ChangeAt Go.RowKit

theorem open_ino_atW {H : Type} {enc : TypeId × Value → H} {P : Program} {w : World} {base fuel : Nat} {t e : TypeId} {f0 f1 f2 f3 f4 f5 : Field} {cs : List Value} {x : DataW H × List MemPlace} {spare : Nat → Bool} {held : Bool}
    (hs : P.underlying t = some (.struct #[f0, f1, f2, f3, f4, f5])) (t0 : P.underlying f0.type = some (.int .i64)) (t1 : P.underlying f1.type = some (.int .i64)) (t2 : P.underlying f2.type = some (.int .i64)) (t3 : P.underlying f3.type = some (.int .i64)) (t5 : P.underlying f5.type = some (.int .i64))
    (t4 : P.underlying f4.type = some (.array 6 e)) (te : P.underlying e = some (.int .i64)) (ke : P.cellsOf e = 1) (k0 : P.cellsOf f0.type = 1) (k1 : P.cellsOf f1.type = 1) (k2 : P.cellsOf f2.type = 1) (k3 : P.cellsOf f3.type = 1) (k4 : P.cellsOf f4.type = 6) (k5 : P.cellsOf f5.type = 1)
    (o0 : f0.offset = 0) (o1 : f1.offset = 1) (o2 : f2.offset = 2) (o3 : f3.offset = 3) (o4 : f4.offset = 4) (o5 : f5.offset = 10)
    (hcs : cs.length = 11) (hf : DataW.trod enc P w base spare held fuel t cs = some x) : ∃ l : List Int, cs = l.map (Value.int .i64) ∧ l.length = 11 ∧ ∀ z ∈ l, (Lit.int .i64 z).wf = true := by
  obtain ⟨xs, m, _, _, hlen, hxl, hg⟩ := DataW.trod_struct hs hf
  have hx6 : xs.length = 6 := hxl
  match cs, hcs with
  | [c0, c1, c2, c3, c4, c5, c6, c7, c8, c9, c10], _ =>
    have g0 := hg 0 f0 rfl
    have g1 := hg 1 f1 rfl
    have g2 := hg 2 f2 rfl
    have g3 := hg 3 f3 rfl
    have g4 := hg 4 f4 rfl
    have g5 := hg 5 f5 rfl
    rw [o0, k0, List.getElem?_eq_getElem (by omega)] at g0
    rw [o1, k1, List.getElem?_eq_getElem (by omega)] at g1
    rw [o2, k2, List.getElem?_eq_getElem (by omega)] at g2
    rw [o3, k3, List.getElem?_eq_getElem (by omega)] at g3
    rw [o4, k4, List.getElem?_eq_getElem (by omega)] at g4
    rw [o5, k5, List.getElem?_eq_getElem (by omega)] at g5
    obtain ⟨z0, e0, _, bz0⟩ := DataW.trod_int t0 g0
    obtain ⟨z1, e1, _, bz1⟩ := DataW.trod_int t1 g1
    obtain ⟨z2, e2, _, bz2⟩ := DataW.trod_int t2 g2
    obtain ⟨z3, e3, _, bz3⟩ := DataW.trod_int t3 g3
    obtain ⟨z5, e5, _, bz5⟩ := DataW.trod_int t5 g5
    obtain ⟨ys, m2, _, _, _, hyl, hy⟩ := DataW.trod_array t4 g4
    have a0 := hy 0 (by omega)
    have a1 := hy 1 (by omega)
    have a2 := hy 2 (by omega)
    have a3 := hy 3 (by omega)
    have a4 := hy 4 (by omega)
    have a5 := hy 5 (by omega)
    rw [ke, List.getElem?_eq_getElem (by omega)] at a0 a1 a2 a3 a4 a5
    obtain ⟨d0, q0, _, bd0⟩ := DataW.trod_int te a0
    obtain ⟨d1, q1, _, bd1⟩ := DataW.trod_int te a1
    obtain ⟨d2, q2, _, bd2⟩ := DataW.trod_int te a2
    obtain ⟨d3, q3, _, bd3⟩ := DataW.trod_int te a3
    obtain ⟨d4, q4, _, bd4⟩ := DataW.trod_int te a4
    obtain ⟨d5, q5, _, bd5⟩ := DataW.trod_int te a5
    simp at e0 e1 e2 e3 e5 q0 q1 q2 q3 q4 q5
    subst e0; subst e1; subst e2; subst e3; subst e5; subst q0; subst q1; subst q2; subst q3; subst q4; subst q5
    refine ⟨[z0, z1, z2, z3, d0, d1, d2, d3, d4, d5, z5], rfl, rfl, fun z hz => ?_⟩
    simp only [List.mem_cons, List.not_mem_nil, or_false] at hz
    rcases hz with rfl | rfl | rfl | rfl | rfl | rfl | rfl | rfl | rfl | rfl | rfl <;> assumption
theorem open_ino_at {H : Type} {enc : TypeId × Value → H} {P : Program} {w : World} {base fuel : Nat} {t e : TypeId} {f0 f1 f2 f3 f4 f5 : Field} {cs : List Value} {x : DataW H × List MemPlace} {spare : Nat → Bool} {held : Bool}
    (hs : P.underlying t = some (.struct #[f0, f1, f2, f3, f4, f5])) (t0 : P.underlying f0.type = some (.int .i64)) (t1 : P.underlying f1.type = some (.int .i64)) (t2 : P.underlying f2.type = some (.int .i64)) (t3 : P.underlying f3.type = some (.int .i64)) (t5 : P.underlying f5.type = some (.int .i64))
    (t4 : P.underlying f4.type = some (.array 6 e)) (te : P.underlying e = some (.int .i64)) (ke : P.cellsOf e = 1) (k0 : P.cellsOf f0.type = 1) (k1 : P.cellsOf f1.type = 1) (k2 : P.cellsOf f2.type = 1) (k3 : P.cellsOf f3.type = 1) (k4 : P.cellsOf f4.type = 6) (k5 : P.cellsOf f5.type = 1)
    (o0 : f0.offset = 0) (o1 : f1.offset = 1) (o2 : f2.offset = 2) (o3 : f3.offset = 3) (o4 : f4.offset = 4) (o5 : f5.offset = 10)
    (hcs : cs.length = 11) (hf : DataW.trod enc P w base spare held fuel t cs = some x) : ∃ l : List Int, cs = l.map (Value.int .i64) ∧ l.length = 11 := by
  obtain ⟨l, h1, h2, _⟩ := open_ino_atW hs t0 t1 t2 t3 t5 t4 te ke k0 k1 k2 k3 k4 k5 o0 o1 o2 o3 o4 o5 hcs hf
  exact ⟨l, h1, h2⟩
theorem open_inoW {H : Type} {enc : TypeId × Value → H} {P : Program} {w : World} {base : Nat} {r : Reach} {b0 : Nat} {t e : TypeId} {f0 f1 f2 f3 f4 f5 : Field} {v : Value} {d : DataW H} {ps : List MemPlace} {spare : Nat → Bool} {held : Bool}
    (hs : P.underlying t = some (.struct #[f0, f1, f2, f3, f4, f5])) (hC : P.cellsOf t = 11) (t0 : P.underlying f0.type = some (.int .i64)) (t1 : P.underlying f1.type = some (.int .i64)) (t2 : P.underlying f2.type = some (.int .i64)) (t3 : P.underlying f3.type = some (.int .i64)) (t5 : P.underlying f5.type = some (.int .i64))
    (t4 : P.underlying f4.type = some (.array 6 e)) (te : P.underlying e = some (.int .i64)) (ke : P.cellsOf e = 1) (k0 : P.cellsOf f0.type = 1) (k1 : P.cellsOf f1.type = 1) (k2 : P.cellsOf f2.type = 1) (k3 : P.cellsOf f3.type = 1) (k4 : P.cellsOf f4.type = 6) (k5 : P.cellsOf f5.type = 1)
    (o0 : f0.offset = 0) (o1 : f1.offset = 1) (o2 : f2.offset = 2) (o3 : f3.offset = 3) (o4 : f4.offset = 4) (o5 : f5.offset = 10)
    (hv : Value.okWide P w r b0 t v) (h : DataW.Trod enc P w base spare held t v d ps) : ∃ l : List Int, v = .agg (icells l) ∧ l.length = 11 ∧ ∀ z ∈ l, (Lit.int .i64 z).wf = true := by
  unfold Value.okWide at hv
  rw [hs] at hv
  obtain ⟨⟨L⟩, rfl, hsz, _⟩ := hv
  obtain ⟨fuel, hf⟩ := h
  have hL : L.length = 11 := by simpa [hC] using hsz
  obtain ⟨l, e, hl, hb⟩ := open_ino_atW hs t0 t1 t2 t3 t5 t4 te ke k0 k1 k2 k3 k4 k5 o0 o1 o2 o3 o4 o5 hL hf
  subst e
  exact ⟨l, rfl, hl, hb⟩
theorem open_ino {H : Type} {enc : TypeId × Value → H} {P : Program} {w : World} {base : Nat} {r : Reach} {b0 : Nat} {t e : TypeId} {f0 f1 f2 f3 f4 f5 : Field} {v : Value} {d : DataW H} {ps : List MemPlace} {spare : Nat → Bool} {held : Bool}
    (hs : P.underlying t = some (.struct #[f0, f1, f2, f3, f4, f5])) (hC : P.cellsOf t = 11) (t0 : P.underlying f0.type = some (.int .i64)) (t1 : P.underlying f1.type = some (.int .i64)) (t2 : P.underlying f2.type = some (.int .i64)) (t3 : P.underlying f3.type = some (.int .i64)) (t5 : P.underlying f5.type = some (.int .i64))
    (t4 : P.underlying f4.type = some (.array 6 e)) (te : P.underlying e = some (.int .i64)) (ke : P.cellsOf e = 1) (k0 : P.cellsOf f0.type = 1) (k1 : P.cellsOf f1.type = 1) (k2 : P.cellsOf f2.type = 1) (k3 : P.cellsOf f3.type = 1) (k4 : P.cellsOf f4.type = 6) (k5 : P.cellsOf f5.type = 1)
    (o0 : f0.offset = 0) (o1 : f1.offset = 1) (o2 : f2.offset = 2) (o3 : f3.offset = 3) (o4 : f4.offset = 4) (o5 : f5.offset = 10)
    (hv : Value.okWide P w r b0 t v) (h : DataW.Trod enc P w base spare held t v d ps) : ∃ l : List Int, v = .agg (icells l) ∧ l.length = 11 := by
  obtain ⟨l, h1, h2, _⟩ := open_inoW hs hC t0 t1 t2 t3 t5 t4 te ke k0 k1 k2 k3 k4 k5 o0 o1 o2 o3 o4 o5 hv h
  exact ⟨l, h1, h2⟩

end Go.Proofs.Ytcdbligdcikphaa
