/-
  Texts of this claim joined: Ref16, Ref16b, Ref17.
-/
import Derived.Test.YtbajicgpjggkfaaGreatGrS
import Derived.Test.YtbajicgpjggkfaaGreatGrX
import Derived.Test.YtbajicgpjggkfaaGreatGrG

/-
  Contracts of the document's answer 16: In, May, Put, Get, Clean, Blocks.
-/
namespace Go.Proofs.YtbajicgpjggkfaaGreat
open Go.RowKit
set_option maxRecDepth 10000





end Go.Proofs.YtbajicgpjggkfaaGreat

/-
  Contracts of the document's answer 16: Get, Clean.
-/
namespace Go.Proofs.YtbajicgpjggkfaaGreat
open Go.RowKit

theorem getN_32 (b : List UInt8) (hb : b.length = 32) (o W : Nat) (h1 : 1 ≤ W) (h4 : W ≤ 4) (hW : o + W ≤ 32) : getN b (o : Nat) (W : Nat) 4 = leV b o W := by
  have h := getN_pad b [] hb o W h1 h4 hW
  rwa [List.append_nil] at h



end Go.Proofs.YtbajicgpjggkfaaGreat

/-
  Contracts of the document's answers of layer 17: Raw, Get, With, Nought.
-/
namespace Go.Proofs.YtbajicgpjggkfaaGreat
open Go.RowKit





end Go.Proofs.YtbajicgpjggkfaaGreat
