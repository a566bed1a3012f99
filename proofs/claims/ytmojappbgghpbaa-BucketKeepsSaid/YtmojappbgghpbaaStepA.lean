/-
  Structs of two numbers and a byte that came in, and slices of these; a struct of one-cell fields that is loaded. Plain; no program is named here.
-/
import Derived.Test.YtmojappbgghpbaaRow
import Derived.Test.YtmojappbgghpbaaOpen
import Derived.Test.YtmojappbgghpbaaCell
import Derived.Lib.SmallJoins
import Derived.Deep.Slices
import Derived.Deep.Strs
namespace Go.Proofs.Ytmojappbgghpbaa
open Go.ChangeShapes Go.WideShapes Go.ChangeAt Go.RowKit

/-- Two numbers and a byte. -/
structure St3 where
  do_ : Int
  no : Int
  b : UInt8
instance : Inhabited St3 := ⟨⟨0, 0, 0⟩⟩
/-- Three cells that read as such. -/
structure R3 (v0 v1 v2 : Value) (s : St3) : Prop where
  e0 : v0 = .int .i64 s.do_
  e1 : v1 = .int .i64 s.no
  e2 : v2 = .int .u8 (s.b.toNat : Int)
  lo0 : -9223372036854775808 ≤ s.do_
  hi0 : s.do_ < 9223372036854775808
  lo1 : -9223372036854775808 ≤ s.no
  hi1 : s.no < 9223372036854775808
/-- A slice with this address reads as these. -/
def R3L (w : World) (A : Option Addr) (l : List St3) : Prop :=
  ∀ k (h : k < l.length), ∃ ad v0 v1 v2, A = some ad ∧ w.cell? (ad.add (k * 3)) = some v0 ∧ w.cell? (ad.add (k * 3 + 1)) = some v1 ∧ w.cell? (ad.add (k * 3 + 2)) = some v2 ∧ R3 v0 v1 v2 l[k]
theorem R3L.below {w w' : World} {A : Option Addr} {l : List St3} (h : R3L w A l) (hb : Below w.heap.size w w') : R3L w' A l := fun k hk => by
  obtain ⟨ad, v0, v1, v2, e, h0, h1, h2, hp⟩ := h k hk
  exact ⟨ad, v0, v1, v2, e, by rw [hb.cell (block_lt_of_cell h0), h0], by rw [hb.cell (block_lt_of_cell h1), h1], by rw [hb.cell (block_lt_of_cell h2), h2], hp⟩

section
variable {H : Type} {enc : TypeId × Value → H} {P : Program}
theorem open_step_at {w : World} {base fuel : Nat} {s : TypeId} {f0 f1 f2 : Field} {spare : Nat → Bool} {held : Bool} {c0 c1 c2 : Value} {x : DataW H × List MemPlace}
    (hs : P.underlying s = some (.struct #[f0, f1, f2])) (h0 : P.underlying f0.type = some (.int .i64)) (k0 : P.cellsOf f0.type = 1) (h1 : P.underlying f1.type = some (.int .i64)) (k1 : P.cellsOf f1.type = 1) (h2 : P.underlying f2.type = some (.int .u8)) (k2 : P.cellsOf f2.type = 1)
    (o0 : f0.offset = 0) (o1 : f1.offset = 1) (o2 : f2.offset = 2)
    (h : DataW.trod enc P w base spare held fuel s [c0, c1, c2] = some x) : ∃ p, R3 c0 c1 c2 p := by
  obtain ⟨y0, y1, y2, n, hx, _, g0, g1, g2⟩ := Go.Deep.trod_struct3 hs h
  rw [o0, k0] at g0
  rw [o1, k1] at g1
  rw [o2, k2] at g2
  simp at g0 g1 g2
  obtain ⟨z0, e0, -, w0⟩ := DataW.trod_int h0 g0
  obtain ⟨z1, e1, -, w1⟩ := DataW.trod_int h1 g1
  obtain ⟨z2, e2, -, w2⟩ := DataW.trod_int h2 g2
  simp at e0 e1 e2
  subst e0; subst e1; subst e2
  have b0 := bounds_i64 w0
  have b1 := bounds_i64 w1
  have b2 := bounds_u8 w2
  refine ⟨⟨z0, z1, UInt8.ofNat z2.toNat⟩, rfl, rfl, ?_, b0.1, ?_, b1.1, ?_⟩
  · congr 1
    simp
    omega
  · show z0 < _; omega
  · show z1 < _; omega
/-- A slice of such structs. -/
theorem open_steps {w : World} {base : Nat} {r : Reach} {b0 : Nat} {t s : TypeId} {f0 f1 f2 : Field} {v : Value} {d : DataW H} {ps : List MemPlace} {held : Bool} (ht : P.underlying t = some (.slice s))
    (hs : P.underlying s = some (.struct #[f0, f1, f2])) (hC : P.cellsOf s = 3) (h0 : P.underlying f0.type = some (.int .i64)) (k0 : P.cellsOf f0.type = 1) (h1 : P.underlying f1.type = some (.int .i64)) (k1 : P.cellsOf f1.type = 1) (h2 : P.underlying f2.type = some (.int .u8)) (k2 : P.cellsOf f2.type = 1)
    (o0 : f0.offset = 0) (o1 : f1.offset = 1) (o2 : f2.offset = 2) (hv : Value.okWide P w r b0 t v) (h : DataW.Trod enc P w base (fun _ => true) held t v d ps) :
    ∃ (A : Option Addr) (n c : Nat) (l : List St3), v = .slice A n c ∧ l.length = n ∧ n ≤ c ∧ c ≤ maxLen ∧ R3L w A l := by
  obtain ⟨a0, n, c, rfl⟩ := okWide_slice ht hv
  obtain ⟨fuel, hf⟩ := h
  rcases Go.Deep.open_slice ht hf with ⟨hcs, _⟩ | ⟨a, n', c', m, k, D, Pl, hcs, _, hl, hm, hmm, _, hx⟩
  · simp [Value.cells] at hcs
    obtain ⟨rfl, rfl, rfl⟩ := hcs
    exact ⟨none, 0, 0, [], rfl, rfl, by omega, by unfold maxLen; omega, fun k hk => absurd hk (by simp)⟩
  · simp only [if_true] at hmm
    simp [Value.cells] at hcs
    obtain ⟨rfl, rfl, rfl⟩ := hcs
    rw [hC] at hx
    have hall : ∀ i, i < m → ∃ p : St3, ∃ v0 v1 v2, w.cell? (a.add (i * 3)) = some v0 ∧ w.cell? (a.add (i * 3 + 1)) = some v1 ∧ w.cell? (a.add (i * 3 + 2)) = some v2 ∧ R3 v0 v1 v2 p := fun i hi => by
      obtain ⟨cs', g1, g2⟩ := hx i hi
      obtain ⟨_, hlen, hg⟩ := World.cells?_some g1
      match cs', hlen with
      | [c0, c1, c2], _ =>
        obtain ⟨p, hp⟩ := open_step_at (c0 := c0) (c1 := c1) (c2 := c2) hs h0 k0 h1 k1 h2 k2 o0 o1 o2 g2
        have e0 := hg 0 (by omega)
        have e1 := hg 1 (by omega)
        have e2 := hg 2 (by omega)
        rw [add_of_add] at e0 e1 e2
        exact ⟨p, c0, c1, c2, by simpa using e0, by simpa using e1, by simpa using e2, hp⟩
    obtain ⟨B, hB⟩ := Go.Deep.choose_lt (α := St3) (p := fun i p => ∃ v0 v1 v2, w.cell? (a.add (i * 3)) = some v0 ∧ w.cell? (a.add (i * 3 + 1)) = some v1 ∧ w.cell? (a.add (i * 3 + 2)) = some v2 ∧ R3 v0 v1 v2 p) hall
    refine ⟨some a, n, c, (List.range n).map B, rfl, by simp, hl, hm, fun j hj => ?_⟩
    have hj' : j < n := by simpa using hj
    obtain ⟨v0, v1, v2, g0, g1, g2, hp⟩ := hB j (by omega)
    exact ⟨a, v0, v1, v2, rfl, g0, g1, g2, by simpa using hp⟩
end

section
variable {P : Program} {ops : Array Oper} {rest : List Oper} {o : Oper} {a : Act} {w : World} {K : Act → World → Prop} {Q : Exit → Act → World → Prop}
/-- A struct of one-cell fields, loaded from anywhere: its cells, in order. -/
theorem run_loadVar_cells (P : Program) (w : World) (t : TypeId) (fs : Array Field) (hu : P.underlying t = some (.struct fs)) (cs : List Value) (hi : (P.info? t).map (·.size) = some cs.length) (ad : Addr) (h : ∀ j v, cs[j]? = some v → w.cell? (ad.add j) = some v) : (loadVar t ad).run P w = .ok (.agg cs.toArray) w := by
  have hl := run_loadCells_list (P := P) w ad cs h
  obtain ⟨i, hq, hs⟩ := Option.map_eq_some_iff.1 hi
  have hagg : (isAgg t).run P w = .ok true w := by
    unfold isAgg
    rw [Sem.run_bind, run_underlying hu w]
    simp
  simp [loadVar, Sem.run_bind, hagg, sizeOf, typeInfo, hq, hs, hl]
theorem exec_load_cells {o : Oper} (t : TypeId) (x : Operand) (ho : o.op = .load t x) (ad : Addr) (hx : a.eval x = .pointer (some ad)) (fs : Array Field) (hu : P.underlying t = some (.struct fs)) (cs : List Value) (hi : (P.info? t).map (·.size) = some cs.length) (h : ∀ j v, cs[j]? = some v → w.cell? (ad.add j) = some v) :
    (execOp a.eval o).run P w = .ok (.value (.agg cs.toArray)) w := by
  unfold execOp
  simp only [ho, hx, Instr.loadAt, Instr.sureAddr, Sem.run_bind, Sem.run_pure, Result.andThen_ok, run_loadVar_cells P w t fs hu cs hi ad h]
theorem wpList_load_cells (hgd : Region.wanted o (yielded ops a.tmps) = true) (t : TypeId) (x : Operand) (ho : o.op = .load t x) (ad : Addr) (hx : a.eval x = .pointer (some ad)) (fs : Array Field) (hu : P.underlying t = some (.struct fs)) (cs : List Value) (hi : (P.info? t).map (·.size) = some cs.length) (hc : ∀ j v, cs[j]? = some v → w.cell? (ad.add j) = some v)
    (h : wpList P ops Q rest (a.put o.dst (.agg cs.toArray)) w) : wpList P ops Q (o :: rest) a w := by
  refine wpList_wanted hgd fun K hK => ?_
  unfold Oper.wp
  rw [exec_load_cells t x ho ad hx fs hu cs hi hc]
  exact hK _ _ h
end

end Go.Proofs.Ytmojappbgghpbaa
