/-
  Structs of a number and a slice of bytes that came in, and slices of these. Plain; no program is named here.
-/
import Derived.Test.YtpdeohmgjblkeaaGrB
import Derived.Test.YtpdeohmgjblkeaaPatchA
import Derived.Lib.SmallJoins
import Derived.Deep.Slices
namespace Go.Proofs.Ytpdeohmgjblkeaa
open Go.ChangeShapes Go.WideShapes Go.ChangeAt Go.RowKit

/-- Two cells that read as a number and a slice of these bytes. -/
structure RP (w : World) (v0 v1 : Value) (p : Pt) : Prop where
  num : v0 = .int .i64 p.at_
  lo : -9223372036854775808 ≤ p.at_
  hi : p.at_ < 9223372036854775808
  bytes : ∃ A c, v1 = .slice A p.data.length c ∧ p.data.length ≤ c ∧ c ≤ maxLen ∧ RB w A p.data
theorem RP.below {w w' : World} {v0 v1 : Value} {p : Pt} (h : RP w v0 v1 p) (hb : Below w.heap.size w w') : RP w' v0 v1 p := by
  obtain ⟨A, c, e, h1, h2, h3⟩ := h.bytes
  exact ⟨h.num, h.lo, h.hi, A, c, e, h1, h2, h3.below hb⟩
/-- A slice with this address reads as these numbers and bytes. -/
def RPL (w : World) (A : Option Addr) (l : List Pt) : Prop :=
  ∀ k (h : k < l.length), ∃ ad v0 v1, A = some ad ∧ w.cell? (ad.add (k * 2)) = some v0 ∧ w.cell? (ad.add (k * 2 + 1)) = some v1 ∧ RP w v0 v1 l[k]
theorem RPL.below {w w' : World} {A : Option Addr} {l : List Pt} (h : RPL w A l) (hb : Below w.heap.size w w') : RPL w' A l := fun k hk => by
  obtain ⟨ad, v0, v1, e, h0, h1, hp⟩ := h k hk
  exact ⟨ad, v0, v1, e, by rw [hb.cell (block_lt_of_cell h0), h0], by rw [hb.cell (block_lt_of_cell h1), h1], hp.below hb⟩

section
variable {H : Type} {enc : TypeId × Value → H} {P : Program}
theorem open_patch_at {w : World} {base fuel : Nat} {s e : TypeId} {f0 f1 : Field} {spare : Nat → Bool} {held : Bool} {c0 c1 : Value} {x : DataW H × List MemPlace}
    (hs : P.underlying s = some (.struct #[f0, f1])) (h0 : P.underlying f0.type = some (.int .i64)) (k0 : P.cellsOf f0.type = 1) (h1 : P.underlying f1.type = some (.slice e)) (k1 : P.cellsOf f1.type = 1) (he : P.underlying e = some (.int .u8)) (hc : P.cellsOf e = 1)
    (o0 : f0.offset = 0) (o1 : f1.offset = 1)
    (h : DataW.trod enc P w base spare held fuel s [c0, c1] = some x) : ∃ p, RP w c0 c1 p := by
  obtain ⟨y0, y1, n, hx, _, g0, g1⟩ := trod_struct2 hs h
  rw [o0, k0] at g0
  rw [o1, k1] at g1
  simp at g0 g1
  obtain ⟨z, e0, -, wz⟩ := DataW.trod_int h0 g0
  obtain ⟨A, m, c, l, e1, hl, hm, hcm, hr, _⟩ := open_bytes_at h1 he hc g1
  simp at e0 e1
  subst e0; subst e1; subst hl
  have bz := bounds_i64 wz
  exact ⟨⟨z, l⟩, rfl, bz.1, by show z < _; omega, A, c, rfl, hm, hcm, hr⟩
/-- A struct of a number and a slice of bytes, by value. -/
theorem open_patch {w : World} {base : Nat} {r : Reach} {b0 : Nat} {s e : TypeId} {f0 f1 : Field} {v : Value} {d : DataW H} {ps : List MemPlace} {spare : Nat → Bool} {held : Bool}
    (hs : P.underlying s = some (.struct #[f0, f1])) (hC : P.cellsOf s = 2) (h0 : P.underlying f0.type = some (.int .i64)) (k0 : P.cellsOf f0.type = 1) (h1 : P.underlying f1.type = some (.slice e)) (k1 : P.cellsOf f1.type = 1) (he : P.underlying e = some (.int .u8)) (hc : P.cellsOf e = 1)
    (o0 : f0.offset = 0) (o1 : f1.offset = 1) (hv : Value.okWide P w r b0 s v) (h : DataW.Trod enc P w base spare held s v d ps) : ∃ v0 v1 p, v = .agg #[v0, v1] ∧ RP w v0 v1 p := by
  obtain ⟨cs, rfl, hsz⟩ := okWide_struct hs hv
  rw [hC] at hsz
  obtain ⟨l⟩ := cs
  match l, hsz with
  | [c0, c1], _ =>
    obtain ⟨fuel, hf⟩ := h
    obtain ⟨p, hp⟩ := open_patch_at (c0 := c0) (c1 := c1) hs h0 k0 h1 k1 he hc o0 o1 (by simpa [Value.cells] using hf)
    exact ⟨c0, c1, p, rfl, hp⟩
/-- A slice of such structs. -/
theorem open_patches {w : World} {base : Nat} {r : Reach} {b0 : Nat} {t s e : TypeId} {f0 f1 : Field} {v : Value} {d : DataW H} {ps : List MemPlace} {held : Bool} (ht : P.underlying t = some (.slice s))
    (hs : P.underlying s = some (.struct #[f0, f1])) (hC : P.cellsOf s = 2) (h0 : P.underlying f0.type = some (.int .i64)) (k0 : P.cellsOf f0.type = 1) (h1 : P.underlying f1.type = some (.slice e)) (k1 : P.cellsOf f1.type = 1) (he : P.underlying e = some (.int .u8)) (hc : P.cellsOf e = 1)
    (o0 : f0.offset = 0) (o1 : f1.offset = 1) (hv : Value.okWide P w r b0 t v) (h : DataW.Trod enc P w base (fun _ => true) held t v d ps) :
    ∃ (A : Option Addr) (n c : Nat) (l : List Pt), v = .slice A n c ∧ l.length = n ∧ n ≤ c ∧ c ≤ maxLen ∧ RPL w A l := by
  obtain ⟨a0, n, c, rfl⟩ := okWide_slice ht hv
  obtain ⟨fuel, hf⟩ := h
  rcases Go.Deep.open_slice ht hf with ⟨hcs, _⟩ | ⟨a, n', c', m, k, D, Pl, hcs, _, hl, hm, hmm, _, hx⟩
  · simp [Value.cells] at hcs
    obtain ⟨rfl, rfl, rfl⟩ := hcs
    exact ⟨none, 0, 0, [], rfl, rfl, by omega, by unfold maxLen; omega, fun k hk => absurd hk (by simp)⟩
  · simp only [if_true] at hmm
    simp [Value.cells] at hcs
    obtain ⟨rfl, rfl, rfl⟩ := hcs
    rw [hC] at hx
    have hall : ∀ i, i < m → ∃ p : Pt, ∃ v0 v1, w.cell? (a.add (i * 2)) = some v0 ∧ w.cell? (a.add (i * 2 + 1)) = some v1 ∧ RP w v0 v1 p := fun i hi => by
      obtain ⟨cs', g1, g2⟩ := hx i hi
      obtain ⟨_, hlen, hg⟩ := World.cells?_some g1
      match cs', hlen with
      | [c0, c1], _ =>
        obtain ⟨p, hp⟩ := open_patch_at (c0 := c0) (c1 := c1) hs h0 k0 h1 k1 he hc o0 o1 g2
        have e0 := hg 0 (by omega)
        have e1 := hg 1 (by omega)
        rw [add_of_add] at e0 e1
        exact ⟨p, c0, c1, by simpa using e0, by simpa using e1, hp⟩
    obtain ⟨B, hB⟩ := Go.Deep.choose_lt (α := Pt) (p := fun i p => ∃ v0 v1, w.cell? (a.add (i * 2)) = some v0 ∧ w.cell? (a.add (i * 2 + 1)) = some v1 ∧ RP w v0 v1 p) hall
    refine ⟨some a, n, c, (List.range n).map B, rfl, by simp, hl, hm, fun j hj => ?_⟩
    have hj' : j < n := by simpa using hj
    obtain ⟨v0, v1, g0, g1, hp⟩ := hB j (by omega)
    exact ⟨a, v0, v1, rfl, g0, g1, by simpa using hp⟩
end

end Go.Proofs.Ytpdeohmgjblkeaa
