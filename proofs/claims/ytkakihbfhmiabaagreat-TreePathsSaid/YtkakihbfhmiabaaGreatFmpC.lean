/-
  What package fmap's functions tell, as contracts that the walks of layer 22's statements are given.
-/
import Derived.Test.YtkakihbfhmiabaaGreatGrAD
import Derived.Test.YtkakihbfhmiabaaGreatVw1
import Derived.Test.YtkakihbfhmiabaaGreatGrAS
import Derived.Test.YtkakihbfhmiabaaGreatGrAO
namespace Go.Proofs.YtkakihbfhmiabaaGreat
open Go.RowKit
set_option maxRecDepth 10000

/-- A number that an int may be. -/
def In64 (X : List Int) : Prop := ∀ z ∈ X, -9223372036854775808 ≤ z ∧ z < 9223372036854775808
theorem vIno_in (l : Lay14) (T : Int → List UInt8) (i : Int) : In64 (vIno l T i) := by
  have hf : In64 freeI := by unfold In64; decide
  unfold vIno
  split
  · unfold getTV getT
    split
    · unfold cleanI
      split
      · rename_i h
        have hL := getI_len (rawT (vBk l T (l.wb i)) (l.wk i))
        have hm := mayI_in hL h.1
        intro z hz
        replace hz : z ∈ getI (rawT (vBk l T (l.wb i)) (l.wk i)) := hz
        clear h
        generalize getI (rawT (vBk l T (l.wb i)) (l.wk i)) = X at hm hz hL
        obtain ⟨k, hk, rfl⟩ := List.getElem_of_mem hz
        obtain ⟨h0, h1, h2, h3, h4⟩ := hm
        have e : X[k] = fld X k := by
          have := fld_get X k hk
          rw [List.getElem?_eq_getElem hk] at this
          exact Option.some.inj this
        rw [e]
        rcases Nat.lt_or_ge k 4 with hk4 | hk4
        · have : k = 0 ∨ k = 1 ∨ k = 2 ∨ k = 3 := by omega
          rcases this with rfl | rfl | rfl | rfl <;> omega
        · have h5 := h4 (k - 4) (by omega)
          have e2 : fld (nums X) (k - 4) = fld X k := by
            unfold fld nums
            rw [List.getD_eq_getElem?_getD, List.getD_eq_getElem?_getD, List.getElem?_drop, show 4 + (k - 4) = k from by omega]
          rw [e2] at h5
          omega
      · exact hf
    · exact hf
  · exact hf
/-- .. of At. -/
structure FCa : Prop where
  at_ : ∀ (l : Lay14) (f : Value) (T : Int → List UInt8), (∀ no, (T no).length = 256) → ∀ X : List Int, X.length = 11 → In64 X → ∀ (k : Int), -9223372036854775808 ≤ k ∧ k < 9223372036854775808 → ∀ w : World, FV w l f T →
    Calls Tryz.prog 156 #[.agg (vval l f), .agg (icells X), .int .i64 k] w fun e w' => e = .returned (.int .i64 (atI l T X k)) ∧ Below w.heap.size w w'
/-- .. of Index, Buckets. -/
structure FCd : Prop where
  index : ∀ (l : Lay14) (f : Value) (T : Int → List UInt8), (∀ no, (T no).length = 256) → ∀ X : List Int, X.length = 11 → In64 X → ∀ w : World, FV w l f T →
    Calls Tryz.prog 157 #[.agg (vval l f), .agg (icells X)] w fun e w' => e = .returned (.tuple #[.agg (icells (ixD l T X :: ixT l T X)), .bool (isF l T X)]) ∧ Below w.heap.size w w'
  buckets : ∀ (l : Lay14) (f : Value) (T : Int → List UInt8), (∀ no, (T no).length = 256) → ∀ X : List Int, X.length = 11 → In64 X → ∀ w : World, FV w l f T →
    Calls Tryz.prog 158 #[.agg (vval l f), .agg (icells X)] w (RetL w (bukF l T X))

end Go.Proofs.YtkakihbfhmiabaaGreat
