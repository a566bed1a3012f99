/-
  Texts of this claim joined: R09f, R09g.
-/
import Derived.Test.YtpmbpklbiocclaaGreatGrAT
import Derived.Test.YtpmbpklbiocclaaGreatGrAO
import Derived.Test.YtpmbpklbiocclaaGreatGrAW
import Derived.Test.YtpmbpklbiocclaaGreatGrAH
import Derived.Test.YtpmbpklbiocclaaGreatGrAJ
import Derived.Deep.LoopGhost

/-
  Contracts of the document's answer 09: Of, Without, Same, SameAll.
-/
namespace Go.Proofs.YtpmbpklbiocclaaGreat
open Go.RowKit





end Go.Proofs.YtpmbpklbiocclaaGreat

/-
  The contract of the document's Blocks.
-/
namespace Go.Proofs.YtpmbpklbiocclaaGreat
open Go.RowKit


end Go.Proofs.YtpmbpklbiocclaaGreat
