/-
  Lists of changes whose bytes and needs lie below a block, while others of the call's own grow. Plain; no program is named here.
-/
import Derived.Test.YtknbjdldmednlaaGrG
import Derived.Test.YtknbjdldmednlaaGrJ
import Derived.Test.YtknbjdldmednlaaGrN
namespace Go.Proofs.Ytknbjdldmednlaa
open Go.RowKit

/-- A change whose bytes and needs lie below a block. -/
def RdLow (B : Nat) : Rds Cg where
  R := fun w r c => RdC.R w r c ∧ ∀ g ∈ blocksOf r, g < B
  stable := fun h hs => ⟨RdC.stable h.1 hs, h.2⟩
  there := fun h g hg => RdC.there h.1 g hg
theorem OwnL.plain {w : World} {B B' : Nat} {e : TypeId} {v : Value} {l : List Cg} (h : OwnL (RdLow B') w B e 5 v l) : OwnL RdC w B e 5 v l := by
  obtain ⟨rows, h1, h2, h3, h4⟩ := h
  exact ⟨rows, h1, h2, fun k hk hk' => (h3 k hk hk').1, h4⟩
/-- Another list of the call's own grows. -/
theorem OwnL.keepLow {w w' : World} {B : Nat} {e : TypeId} {u v : Value} {l : List Cg} (h : OwnL (RdLow B) w B e 5 u l) (hg : w.grownBy w' v.ownBlock) (hv : ∀ k, v.ownBlock = some k → B ≤ k) (ha : Apart u v) : OwnL (RdLow B) w' B e 5 u l := by
  obtain ⟨rows, h1, h2, h3, h4⟩ := h
  refine ⟨rows, ⟨h1.1, h1.2.1, ?_⟩, h2, fun k hk hk' => (RdLow B).stable (h3 k hk hk') fun q hq => hg.block q ((RdLow B).there (h3 k hk hk') q hq) (fun e => ?_), h4⟩
  · rcases h1.2.2 with h | ⟨q, cap, cur, hv, hb, hq, h⟩
    · exact Or.inl h
    · exact Or.inr ⟨q, cap, cur, hv, hb, Blk.grown hq hg (fun e => ha q (by rw [hv]; rfl) e.symm), h⟩
  · have h5 := (h3 k hk hk').2 q hq
    have h6 := hv q e.symm
    omega
theorem Apart.grown {w : World} {u v : Value} {g n c : Nat} (ha : Apart u v) (hu : ∀ k, u.ownBlock = some k → k < w.heap.size) (hw : v.ownBlock = some g ∨ g = w.heap.size) : Apart u (.slice (some ⟨g, 0, none⟩) n c) := fun k h1 h2 => by
  have e : g = k := by simpa [Value.ownBlock] using h2
  subst e
  rcases hw with hw | hw
  · exact ha g h1 hw
  · have := hu g h1
    omega
theorem RdL.plainLow {w : World} {B : Nat} {A : Option Addr} {l : List Cg} (h : RdL (RdLow B) w A 5 l) : RdL RdC w A 5 l := by
  obtain ⟨rows, h1, h2, h3, h4⟩ := h
  exact ⟨rows, h1, h2, h3, fun k hk hk' => (h4 k hk hk').1⟩
theorem RdL.isLow {w : World} {A : Option Addr} {l : List Cg} (h : RdL RdC w A 5 l) : RdL (RdLow w.heap.size) w A 5 l := by
  obtain ⟨rows, h1, h2, h3, h4⟩ := h
  exact ⟨rows, h1, h2, h3, fun k hk hk' => ⟨h4 k hk hk', fun g hg => RdC.there (h4 k hk hk') g hg⟩⟩
theorem RdL.cgLow {w : World} {B : Nat} {A : Option Addr} {l : List Cg} (h : RdL (RdLow B) w A 5 l) {k : Nat} (hk : k < l.length) :
    ∃ ad Ad nd cd An nn cn, A = some ad ∧ CV w l[k] Ad nd cd An nn cn ∧ (∀ q ∈ blocksOf [Value.int .i64 l[k].id, .int .i64 l[k].block, .int .i64 l[k].p.at_, .slice Ad nd cd, .slice An nn cn], q < B) ∧ w.cell? (ad.add (k * 5)) = some (.int .i64 l[k].id) ∧ w.cell? ((ad.add (k * 5)).add 1) = some (.int .i64 l[k].block) ∧ w.cell? ((ad.add (k * 5)).add 2) = some (.int .i64 l[k].p.at_) ∧ w.cell? ((ad.add (k * 5)).add 3) = some (.slice Ad nd cd) ∧ w.cell? ((ad.add (k * 5)).add 4) = some (.slice An nn cn) := by
  obtain ⟨ad, r, e, _, ⟨⟨v0, v1, v2, v3, v4, rfl, hr⟩, hlow⟩, hc⟩ := h.at_ hk (by decide)
  obtain ⟨Ad, nd, cd, An, nn, cn, rfl, rfl, rfl, rfl, rfl, hcv⟩ := hr.cv
  have h0 := hc 0 _ rfl
  rw [add_of_add, Nat.add_zero] at h0
  exact ⟨ad, Ad, nd, cd, An, nn, cn, e, hcv, hlow, h0, hc 1 _ rfl, hc 2 _ rfl, hc 3 _ rfl, hc 4 _ rfl⟩
/-- Its rows lie in another block than what grows, and what they lead to lies low. -/
theorem RdL.keepRow {w w' : World} {B : Nat} {A : Option Addr} {l : List Cg} {r : Option Nat} (h : RdL (RdLow B) w A 5 l) (hg : w.grownBy w' r) (hr : ∀ k, r = some k → B ≤ k) (ha : ∀ ad, A = some ad → r ≠ some ad.block) : RdL (RdLow B) w' A 5 l := by
  obtain ⟨rows, h1, h2, h3, h4⟩ := h
  refine ⟨rows, h1, fun k hk i hi => ?_, h3, fun k hk hk' => (RdLow B).stable (h4 k hk hk') fun q hq => hg.block q ((RdLow B).there (h4 k hk hk') q hq) (fun e => by have h5 := (h4 k hk hk').2 q hq; have h6 := hr q e.symm; omega)⟩
  obtain ⟨ad, x, e, hx, hc⟩ := h2 k hk i hi
  refine ⟨ad, x, e, hx, ?_⟩
  have hb : (ad.add (k * 5 + i)).block = ad.block := block_of_add _ _
  rw [World.cell?_of_block (w := w) (w' := w') (a := ad.add (k * 5 + i)) (by
    rw [hb]
    have hlt := block_lt_of_cell hc
    rw [hb] at hlt
    exact hg.block ad.block hlt (fun e2 => ha ad e e2.symm))]
  exact hc

end Go.Proofs.Ytknbjdldmednlaa
