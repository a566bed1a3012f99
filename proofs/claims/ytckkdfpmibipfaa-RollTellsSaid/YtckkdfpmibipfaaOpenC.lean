/-
  Changes that came in (structs of two numbers, a patch, a slice of numbers), and slices of these. Plain; no program is named here.
-/
import Derived.Test.YtckkdfpmibipfaaOpenP
import Derived.Test.YtckkdfpmibipfaaOpenV
import Derived.Test.YtckkdfpmibipfaaReadyA
namespace Go.Proofs.Ytckkdfpmibipfaa
open Go.ChangeShapes Go.WideShapes Go.ChangeAt Go.RowKit

/-- Five cells that read as a change. -/
structure RCg (w : World) (v0 v1 v2 v3 v4 : Value) (c : Cg) : Prop where
  e0 : v0 = .int .i64 c.id
  e1 : v1 = .int .i64 c.block
  lo0 : -9223372036854775808 ≤ c.id
  hi0 : c.id < 9223372036854775808
  lo1 : -9223372036854775808 ≤ c.block
  hi1 : c.block < 9223372036854775808
  p : RP w v2 v3 c.p
  needs : ∃ A m, v4 = .slice A c.needs.length m ∧ c.needs.length ≤ m ∧ m ≤ maxLen ∧ RC w A (ivals c.needs)
  nb : ∀ z ∈ c.needs, -9223372036854775808 ≤ z ∧ z < 9223372036854775808
theorem RCg.below {w w' : World} {v0 v1 v2 v3 v4 : Value} {c : Cg} (h : RCg w v0 v1 v2 v3 v4 c) (hb : Below w.heap.size w w') : RCg w' v0 v1 v2 v3 v4 c := by
  obtain ⟨A, m, e, h1, h2, h3⟩ := h.needs
  exact ⟨h.e0, h.e1, h.lo0, h.hi0, h.lo1, h.hi1, h.p.below hb, ⟨A, m, e, h1, h2, h3.below hb⟩, h.nb⟩
/-- A slice with this address reads as these. -/
def RCL (w : World) (A : Option Addr) (l : List Cg) : Prop :=
  ∀ k (h : k < l.length), ∃ ad v0 v1 v2 v3 v4, A = some ad ∧ w.cell? (ad.add (k * 5)) = some v0 ∧ w.cell? (ad.add (k * 5 + 1)) = some v1 ∧ w.cell? (ad.add (k * 5 + 2)) = some v2 ∧ w.cell? (ad.add (k * 5 + 3)) = some v3 ∧ w.cell? (ad.add (k * 5 + 4)) = some v4 ∧ RCg w v0 v1 v2 v3 v4 l[k]
theorem RCL.below {w w' : World} {A : Option Addr} {l : List Cg} (h : RCL w A l) (hb : Below w.heap.size w w') : RCL w' A l := fun k hk => by
  obtain ⟨ad, v0, v1, v2, v3, v4, e, h0, h1, h2, h3, h4, hp⟩ := h k hk
  exact ⟨ad, v0, v1, v2, v3, v4, e, by rw [hb.cell (block_lt_of_cell h0), h0], by rw [hb.cell (block_lt_of_cell h1), h1], by rw [hb.cell (block_lt_of_cell h2), h2], by rw [hb.cell (block_lt_of_cell h3), h3], by rw [hb.cell (block_lt_of_cell h4), h4], hp.below hb⟩

section
variable {H : Type} {enc : TypeId × Value → H} {P : Program}
/-- A slice of numbers, at its cell. -/
theorem open_nums_at {w : World} {base fuel : Nat} {t e : TypeId} {cs : List Value} {x : DataW H × List MemPlace} {spare : Nat → Bool} {held : Bool} (ht : P.underlying t = some (.slice e)) (he : P.underlying e = some (.int .i64)) (hc : P.cellsOf e = 1)
    (hf : DataW.trod enc P w base spare held fuel t cs = some x) :
    ∃ (A : Option Addr) (n c : Nat) (l : List Int), cs = [.slice A n c] ∧ l.length = n ∧ n ≤ c ∧ c ≤ maxLen ∧ RC w A (ivals l) ∧ ∀ z ∈ l, -9223372036854775808 ≤ z ∧ z < 9223372036854775808 := by
  rcases open_ints ht he hc hf with ⟨hcs, _⟩ | ⟨a, n, c, zs, hcs, _, hl, hm, hz, _, hcell, hw⟩
  · exact ⟨none, 0, 0, [], hcs, rfl, by omega, by unfold maxLen; omega, RC.nil_ _ _, by simp⟩
  · have hnz : n ≤ zs.length := by rw [hz]; split <;> omega
    refine ⟨some a, n, c, zs.take n, hcs, by simp; omega, hl, hm, fun j hj => ⟨a, rfl, ?_⟩, fun z h => ?_⟩
    · have hj' : j < n := by simp [ivals] at hj; omega
      rw [hcell j (by omega)]
      simp [ivals, List.getD, show j < zs.length by omega]
    · have hb := bounds_i64 (hw z (List.mem_of_mem_take h))
      exact ⟨hb.1, by omega⟩
theorem open_change_at {w : World} {base fuel : Nat} {s sp e en : TypeId} {f0 f1 f2 f3 p0 p1 : Field} {spare : Nat → Bool} {held : Bool} {c0 c1 c2 c3 c4 : Value} {x : DataW H × List MemPlace}
    (hs : P.underlying s = some (.struct #[f0, f1, f2, f3])) (h0 : P.underlying f0.type = some (.int .i64)) (k0 : P.cellsOf f0.type = 1) (h1 : P.underlying f1.type = some (.int .i64)) (k1 : P.cellsOf f1.type = 1)
    (h2 : f2.type = sp) (k2 : P.cellsOf f2.type = 2) (h3 : P.underlying f3.type = some (.slice en)) (k3 : P.cellsOf f3.type = 1) (hen : P.underlying en = some (.int .i64)) (kn : P.cellsOf en = 1)
    (hp : P.underlying sp = some (.struct #[p0, p1])) (hp0 : P.underlying p0.type = some (.int .i64)) (kp0 : P.cellsOf p0.type = 1) (hp1 : P.underlying p1.type = some (.slice e)) (kp1 : P.cellsOf p1.type = 1) (he : P.underlying e = some (.int .u8)) (hc : P.cellsOf e = 1) (op0 : p0.offset = 0) (op1 : p1.offset = 1)
    (o0 : f0.offset = 0) (o1 : f1.offset = 1) (o2 : f2.offset = 2) (o3 : f3.offset = 4)
    (h : DataW.trod enc P w base spare held fuel s [c0, c1, c2, c3, c4] = some x) : ∃ p, RCg w c0 c1 c2 c3 c4 p := by
  obtain ⟨y0, y1, y2, y3, n, hx, _, g0, g1, g2, g3⟩ := Go.Joins.trod_struct4 hs h
  rw [o0, k0] at g0
  rw [o1, k1] at g1
  rw [o2, k2] at g2
  rw [o3, k3] at g3
  simp at g0 g1 g2 g3
  obtain ⟨z0, e0, -, w0⟩ := DataW.trod_int h0 g0
  obtain ⟨z1, e1, -, w1⟩ := DataW.trod_int h1 g1
  rw [h2] at g2
  obtain ⟨pt, hpt⟩ := open_patch_at (c0 := c2) (c1 := c3) hp hp0 kp0 hp1 kp1 he hc op0 op1 g2
  obtain ⟨A, m, c, l, e3, hl, hm, hcm, hr, hb⟩ := open_nums_at h3 hen kn g3
  simp at e0 e1 e3
  subst e0; subst e1; subst e3; subst hl
  have b0 := bounds_i64 w0
  have b1 := bounds_i64 w1
  exact ⟨⟨z0, z1, pt, l⟩, rfl, rfl, b0.1, by show z0 < _; omega, b1.1, by show z1 < _; omega, hpt, ⟨A, c, rfl, hm, hcm, hr⟩, hb⟩
/-- A slice of changes. -/
theorem open_changes {w : World} {base : Nat} {r : Reach} {b0 : Nat} {t s sp e en : TypeId} {f0 f1 f2 f3 p0 p1 : Field} {v : Value} {d : DataW H} {ps : List MemPlace} {held : Bool} (ht : P.underlying t = some (.slice s))
    (hs : P.underlying s = some (.struct #[f0, f1, f2, f3])) (hC : P.cellsOf s = 5) (h0 : P.underlying f0.type = some (.int .i64)) (k0 : P.cellsOf f0.type = 1) (h1 : P.underlying f1.type = some (.int .i64)) (k1 : P.cellsOf f1.type = 1)
    (h2 : f2.type = sp) (k2 : P.cellsOf f2.type = 2) (h3 : P.underlying f3.type = some (.slice en)) (k3 : P.cellsOf f3.type = 1) (hen : P.underlying en = some (.int .i64)) (kn : P.cellsOf en = 1)
    (hp : P.underlying sp = some (.struct #[p0, p1])) (hp0 : P.underlying p0.type = some (.int .i64)) (kp0 : P.cellsOf p0.type = 1) (hp1 : P.underlying p1.type = some (.slice e)) (kp1 : P.cellsOf p1.type = 1) (he : P.underlying e = some (.int .u8)) (hc : P.cellsOf e = 1) (op0 : p0.offset = 0) (op1 : p1.offset = 1)
    (o0 : f0.offset = 0) (o1 : f1.offset = 1) (o2 : f2.offset = 2) (o3 : f3.offset = 4) (hv : Value.okWide P w r b0 t v) (h : DataW.Trod enc P w base (fun _ => true) held t v d ps) :
    ∃ (A : Option Addr) (n c : Nat) (l : List Cg), v = .slice A n c ∧ l.length = n ∧ n ≤ c ∧ c ≤ maxLen ∧ RCL w A l := by
  obtain ⟨a0, n, c, rfl⟩ := okWide_slice ht hv
  obtain ⟨fuel, hf⟩ := h
  rcases Go.Deep.open_slice ht hf with ⟨hcs, _⟩ | ⟨a, n', c', m, k, D, Pl, hcs, _, hl, hm, hmm, _, hx⟩
  · simp [Value.cells] at hcs
    obtain ⟨rfl, rfl, rfl⟩ := hcs
    exact ⟨none, 0, 0, [], rfl, rfl, by omega, by unfold maxLen; omega, fun k hk => absurd hk (by simp)⟩
  · simp only [if_true] at hmm
    simp [Value.cells] at hcs
    obtain ⟨rfl, rfl, rfl⟩ := hcs
    rw [hC] at hx
    have hall : ∀ i, i < m → ∃ p : Cg, ∃ v0 v1 v2 v3 v4, w.cell? (a.add (i * 5)) = some v0 ∧ w.cell? (a.add (i * 5 + 1)) = some v1 ∧ w.cell? (a.add (i * 5 + 2)) = some v2 ∧ w.cell? (a.add (i * 5 + 3)) = some v3 ∧ w.cell? (a.add (i * 5 + 4)) = some v4 ∧ RCg w v0 v1 v2 v3 v4 p := fun i hi => by
      obtain ⟨cs', g1, g2⟩ := hx i hi
      obtain ⟨_, hlen, hg⟩ := World.cells?_some g1
      match cs', hlen with
      | [c0, c1, c2, c3, c4], _ =>
        obtain ⟨p, hp'⟩ := open_change_at (c0 := c0) (c1 := c1) (c2 := c2) (c3 := c3) (c4 := c4) hs h0 k0 h1 k1 h2 k2 h3 k3 hen kn hp hp0 kp0 hp1 kp1 he hc op0 op1 o0 o1 o2 o3 g2
        have e0 := hg 0 (by omega)
        have e1 := hg 1 (by omega)
        have e2 := hg 2 (by omega)
        have e3 := hg 3 (by omega)
        have e4 := hg 4 (by omega)
        rw [add_of_add] at e0 e1 e2 e3 e4
        exact ⟨p, c0, c1, c2, c3, c4, by simpa using e0, by simpa using e1, by simpa using e2, by simpa using e3, by simpa using e4, hp'⟩
    obtain ⟨B, hB⟩ := Go.Deep.choose_lt (α := Cg) (p := fun i p => ∃ v0 v1 v2 v3 v4, w.cell? (a.add (i * 5)) = some v0 ∧ w.cell? (a.add (i * 5 + 1)) = some v1 ∧ w.cell? (a.add (i * 5 + 2)) = some v2 ∧ w.cell? (a.add (i * 5 + 3)) = some v3 ∧ w.cell? (a.add (i * 5 + 4)) = some v4 ∧ RCg w v0 v1 v2 v3 v4 p) hall
    refine ⟨some a, n, c, (List.range n).map B, rfl, by simp, hl, hm, fun j hj => ?_⟩
    have hj' : j < n := by simpa using hj
    obtain ⟨v0, v1, v2, v3, v4, g0, g1, g2, g3, g4, hp'⟩ := hB j (by omega)
    exact ⟨a, v0, v1, v2, v3, v4, rfl, g0, g1, g2, g3, g4, by simpa using hp'⟩
end

end Go.Proofs.Ytckkdfpmibipfaa
