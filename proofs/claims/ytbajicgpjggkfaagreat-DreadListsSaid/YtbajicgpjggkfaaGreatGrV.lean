/-
  Texts of this claim joined: Chart1, Chart3.
-/
import Derived.Test.YtbajicgpjggkfaaGreatGrA
import Derived.Test.YtbajicgpjggkfaaGreatGrB
import Derived.Test.YtbajicgpjggkfaaGreatGrC
import Derived.BigQuiet
import Derived.Deep.QuietTactic
import Derived.StillTailTactics

/-
  Contracts of package chart: isBit, mask, Has, With.
-/
namespace Go.Proofs.YtbajicgpjggkfaaGreat
open Go.RowKit


theorem mask_key (k : Nat) : (2 : Int) ^ (k % 8) % 256 = ((2 ^ (k % 8) : Nat) : Int) := by
  have h := pow_byte (show k % 8 < 8 by omega)
  have e : (2 : Int) ^ (k % 8) = ((2 ^ (k % 8) : Nat) : Int) := by push_cast; rfl
  rw [e]
  generalize 2 ^ (k % 8) = m at h ⊢
  omega
/-- The byte in which a bit is. -/
theorem byte_of_bit {L : List UInt8} (hL : L.length = 256) {p : Nat} (hp : p < 2048) : ∃ x : UInt8, L[p / 8]? = some x ∧ bitAt L p = x.toNat.testBit (p % 8) ∧ L.getD (p / 8) 0 = x := by
  have h : p / 8 < L.length := by omega
  have e : L.getD (p / 8) 0 = L[p / 8] := by simp [List.getD, h]
  exact ⟨L[p / 8], List.getElem?_eq_getElem h, by unfold bitAt; rw [e], e⟩
theorem bit_neq (x : UInt8) (r : Nat) (h : r < 8) : (bits .and .u8 (x.toNat : Int) ((2 ^ r : Nat) : Int) != 0) = x.toNat.testBit r := by
  rw [bits_and_mask x r h]
  have := and_mask x.toNat r
  cases e : x.toNat.testBit r
  · rw [this.2 e]; rfl
  · have h2 : ¬ (x.toNat &&& 2 ^ r) = 0 := fun h => by rw [this.1 h] at e; cases e
    simp only [bne_iff_ne, ne_eq]
    omega
theorem bit_eql (x : UInt8) (r : Nat) (h : r < 8) : (bits .and .u8 (x.toNat : Int) ((2 ^ r : Nat) : Int) == 0) = !x.toNat.testBit r := by
  rw [← bit_neq x r h]
  simp [bne]



end Go.Proofs.YtbajicgpjggkfaaGreat

/-
  Contracts of package chart: Make, Patch.
-/
namespace Go.Proofs.YtbajicgpjggkfaaGreat
open Go.RowKit
set_option maxRecDepth 10000



end Go.Proofs.YtbajicgpjggkfaaGreat
