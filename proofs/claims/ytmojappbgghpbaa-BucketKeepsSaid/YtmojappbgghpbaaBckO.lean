/-
  An entry, and a slice of entries, that came in. Plain; no program is named here.
-/
import Derived.Test.YtmojappbgghpbaaBck6
import Derived.Test.YtmojappbgghpbaaOpenP
import Derived.ChangeMaps5
namespace Go.Proofs.Ytmojappbgghpbaa
open Go.ChangeShapes Go.WideShapes Go.ChangeAt Go.RowKit

/-- What a number and a text that came in are. -/
def EnOK (e : En) : Prop := e.name.size ≤ maxLen ∧ -9223372036854775808 ≤ e.ino ∧ e.ino < 9223372036854775808
section
variable {H : Type} {enc : TypeId × Value → H} {P : Program}
theorem open_ent_at {w : World} {base fuel : Nat} {s : TypeId} {f0 f1 : Field} {spare : Nat → Bool} {held : Bool} {c0 c1 : Value} {x : DataW H × List MemPlace}
    (hs : P.underlying s = some (.struct #[f0, f1])) (h0 : P.underlying f0.type = some .string) (k0 : P.cellsOf f0.type = 1) (h1 : P.underlying f1.type = some (.int .i64)) (k1 : P.cellsOf f1.type = 1)
    (o0 : f0.offset = 0) (o1 : f1.offset = 1)
    (h : DataW.trod enc P w base spare held fuel s [c0, c1] = some x) : ∃ e : En, c0 = .string e.name ∧ c1 = .int .i64 e.ino ∧ EnOK e := by
  obtain ⟨y0, y1, n, hx, _, g0, g1⟩ := trod_struct2 hs h
  rw [o0, k0] at g0
  rw [o1, k1] at g1
  simp at g0 g1
  obtain ⟨z, e0, _, hz⟩ := DataW.trod_string h0 g0
  obtain ⟨i, e1, -, wz⟩ := DataW.trod_int h1 g1
  simp at e0 e1
  subst e0; subst e1
  have bz := bounds_i64 wz
  exact ⟨⟨z, i⟩, rfl, rfl, hz, bz.1, by show i < _; omega⟩
/-- An entry, by value. -/
theorem open_ent {w : World} {base : Nat} {r : Reach} {b0 : Nat} {s : TypeId} {f0 f1 : Field} {v : Value} {d : DataW H} {ps : List MemPlace} {spare : Nat → Bool} {held : Bool}
    (hs : P.underlying s = some (.struct #[f0, f1])) (hC : P.cellsOf s = 2) (h0 : P.underlying f0.type = some .string) (k0 : P.cellsOf f0.type = 1) (h1 : P.underlying f1.type = some (.int .i64)) (k1 : P.cellsOf f1.type = 1)
    (o0 : f0.offset = 0) (o1 : f1.offset = 1) (hv : Value.okWide P w r b0 s v) (h : DataW.Trod enc P w base spare held s v d ps) : ∃ e : En, v = .agg (ecells e) ∧ EnOK e := by
  obtain ⟨cs, rfl, hsz⟩ := okWide_struct hs hv
  rw [hC] at hsz
  obtain ⟨l⟩ := cs
  match l, hsz with
  | [c0, c1], _ =>
    obtain ⟨fuel, hf⟩ := h
    obtain ⟨p, rfl, rfl, hp⟩ := open_ent_at (c0 := c0) (c1 := c1) hs h0 k0 h1 k1 o0 o1 (by simpa [Value.cells] using hf)
    exact ⟨p, rfl, hp⟩
/-- A slice of entries. -/
theorem open_ents {w : World} {base : Nat} {r : Reach} {b0 : Nat} {t s : TypeId} {f0 f1 : Field} {v : Value} {d : DataW H} {ps : List MemPlace} {held : Bool} (ht : P.underlying t = some (.slice s))
    (hs : P.underlying s = some (.struct #[f0, f1])) (hC : P.cellsOf s = 2) (h0 : P.underlying f0.type = some .string) (k0 : P.cellsOf f0.type = 1) (h1 : P.underlying f1.type = some (.int .i64)) (k1 : P.cellsOf f1.type = 1)
    (o0 : f0.offset = 0) (o1 : f1.offset = 1) (hv : Value.okWide P w r b0 t v) (h : DataW.Trod enc P w base (fun _ => true) held t v d ps) :
    ∃ (A : Option Addr) (n c : Nat) (l : List En), v = .slice A n c ∧ l.length = n ∧ n ≤ c ∧ c ≤ maxLen ∧ RN w A 2 (erows l) := by
  obtain ⟨a0, n, c, rfl⟩ := okWide_slice ht hv
  obtain ⟨fuel, hf⟩ := h
  rcases Go.Deep.open_slice ht hf with ⟨hcs, _⟩ | ⟨a, n', c', m, k, D, Pl, hcs, _, hl, hm, hmm, _, hx⟩
  · simp [Value.cells] at hcs
    obtain ⟨rfl, rfl, rfl⟩ := hcs
    exact ⟨none, 0, 0, [], rfl, rfl, by omega, by unfold maxLen; omega, fun k hk => absurd hk (by simp [erows])⟩
  · simp only [if_true] at hmm
    simp [Value.cells] at hcs
    obtain ⟨rfl, rfl, rfl⟩ := hcs
    rw [hC] at hx
    have hall : ∀ i, i < m → ∃ p : En, w.cell? (a.add (i * 2)) = some (.string p.name) ∧ w.cell? (a.add (i * 2 + 1)) = some (.int .i64 p.ino) := fun i hi => by
      obtain ⟨cs', g1, g2⟩ := hx i hi
      obtain ⟨_, hlen, hg⟩ := World.cells?_some g1
      match cs', hlen with
      | [c0, c1], _ =>
        obtain ⟨p, rfl, rfl, _⟩ := open_ent_at (c0 := c0) (c1 := c1) hs h0 k0 h1 k1 o0 o1 g2
        have e0 := hg 0 (by omega)
        have e1 := hg 1 (by omega)
        rw [add_of_add] at e0 e1
        exact ⟨p, by simpa using e0, by simpa using e1⟩
    obtain ⟨B, hB⟩ := Go.Deep.choose_lt (α := En) (p := fun i p => w.cell? (a.add (i * 2)) = some (.string p.name) ∧ w.cell? (a.add (i * 2 + 1)) = some (.int .i64 p.ino)) hall
    refine ⟨some a, n, c, (List.range n).map B, rfl, by simp, hl, hm, fun j hj i hi => ?_⟩
    have hj' : j < n := by simpa [erows] using hj
    obtain ⟨g0, g1⟩ := hB j (by omega)
    have hrow : (erows ((List.range n).map B))[j] = erow (B j) := by
      apply Option.some.inj
      rw [← List.getElem?_eq_getElem hj]
      exact erow_at (by simp [hj'])
    rw [hrow]
    match i, hi with
    | 0, _ => exact ⟨a, _, rfl, rfl, g0⟩
    | 1, _ => exact ⟨a, _, rfl, rfl, g1⟩
end

end Go.Proofs.Ytmojappbgghpbaa
