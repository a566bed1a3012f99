/-
  An index that came in.
-/
import Derived.Test.YthcbjihdbkpkeaaRow
import Derived.Test.YthcbjihdbkpkeaaOpen
import Derived.Test.YthcbjihdbkpkeaaInoA
namespace Go.Proofs.Ythcbjihdbkpkeaa
open Go.ChangeShapes Go.WideShapes Go.ChangeAt Go.RowKit

theorem open_idx {H : Type} {enc : TypeId × Value → H} {P : Program} {w : World} {base : Nat} {r : Reach} {b0 : Nat} {t e : TypeId} {f0 f1 : Field} {v : Value} {dd : DataW H} {ps : List MemPlace} {spare : Nat → Bool} {held : Bool}
    (hs : P.underlying t = some (.struct #[f0, f1])) (hC : P.cellsOf t = 33) (t0 : P.underlying f0.type = some (.int .i64)) (t1 : P.underlying f1.type = some (.array 32 e)) (te : P.underlying e = some (.int .i64))
    (ke : P.cellsOf e = 1) (k0 : P.cellsOf f0.type = 1) (k1 : P.cellsOf f1.type = 32) (o0 : f0.offset = 0) (o1 : f1.offset = 1)
    (hv : Value.okWide P w r b0 t v) (h : DataW.Trod enc P w base spare held t v dd ps) : ∃ (d : Int) (l : List Int), v = .agg (icells (d :: l)) ∧ l.length = 32 := by
  unfold Value.okWide at hv
  rw [hs] at hv
  obtain ⟨⟨L⟩, rfl, hsz, _⟩ := hv
  obtain ⟨fuel, hf⟩ := h
  have hL : L.length = 33 := by simpa [hC] using hsz
  obtain ⟨xs, m, _, _, hlen, hxl, hg⟩ := DataW.trod_struct hs hf
  have hx2 : xs.length = 2 := hxl
  have g0 := hg 0 f0 rfl
  have g1 := hg 1 f1 rfl
  rw [o0, k0, List.getElem?_eq_getElem (by omega)] at g0
  rw [o1, k1, List.getElem?_eq_getElem (by omega)] at g1
  obtain ⟨z0, e0, _, _⟩ := DataW.trod_int t0 g0
  obtain ⟨ys, m2, _, _, _, hyl, hy⟩ := DataW.trod_array t1 g1
  have hcl : (Value.agg ⟨L⟩).cells.toList = L := rfl
  rw [hcl] at e0 hy
  have hint : ∀ v ∈ L.drop 1, ∃ z, v = .int .i64 z := by
    intro v hv
    obtain ⟨i, hi, rfl⟩ := List.getElem_of_mem hv
    rw [List.length_drop, hL] at hi
    have a := hy i (by omega)
    rw [ke, Nat.mul_one, List.getElem?_eq_getElem (by omega)] at a
    obtain ⟨z, q, _, _⟩ := DataW.trod_int te a
    refine ⟨z, ?_⟩
    have e2 : (((L.drop 1).take 32).drop i).take 1 = [(L.drop 1)[i]'(by rw [List.length_drop]; omega)] := by
      rw [List.take_of_length_le (show (L.drop 1).length ≤ 32 by rw [List.length_drop]; omega), List.drop_eq_getElem_cons (by rw [List.length_drop]; omega)]
      rfl
    rw [e2] at q
    simpa using q
  have hmap : ∀ (l : List Value), (∀ v ∈ l, ∃ z, v = .int .i64 z) → ∃ zs : List Int, l = zs.map (Value.int .i64) := by
    intro l
    induction l with
    | nil => intro _; exact ⟨[], rfl⟩
    | cons v l ih =>
      intro hl
      obtain ⟨z, rfl⟩ := hl v (by simp)
      obtain ⟨zs, rfl⟩ := ih (fun u hu => hl u (by simp [hu]))
      exact ⟨z :: zs, rfl⟩
  obtain ⟨zs, hzs⟩ := hmap _ hint
  refine ⟨z0, zs, ?_, ?_⟩
  · unfold icells
    congr 1
    rw [List.map_cons, ← hzs]
    match L, hL with
    | c :: L', _ =>
      simp at e0
      rw [e0]
      rfl
  · have := congrArg List.length hzs
    rw [List.length_drop, List.length_map] at this
    omega

end Go.Proofs.Ythcbjihdbkpkeaa
