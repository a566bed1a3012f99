/-
  Texts of this claim joined: Pts1, Pts2.
-/
import Derived.Test.YtbajicgpjggkfaaGreatGrD
import Derived.Test.YtbajicgpjggkfaaGreatGrA
import Derived.Test.YtbajicgpjggkfaaGreatPatO
import Derived.Test.YtbajicgpjggkfaaGreatGrM
import Derived.Test.YtbajicgpjggkfaaGreatGrX

/-
  Contracts of package points: isPlace, isNumber, numberAt, Get, Patch.
-/
namespace Go.Proofs.YtbajicgpjggkfaaGreat
open Go.RowKit






end Go.Proofs.YtbajicgpjggkfaaGreat

/-
  Contracts of package points: Make, List, Last.
-/
namespace Go.Proofs.YtbajicgpjggkfaaGreat
open Go.RowKit
set_option maxRecDepth 10000




end Go.Proofs.YtbajicgpjggkfaaGreat
