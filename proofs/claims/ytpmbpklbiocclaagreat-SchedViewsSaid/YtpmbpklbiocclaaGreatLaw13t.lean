/-
  The walk of SchedSteps.
-/
import Derived.Test.YtpmbpklbiocclaaGreatGrBH
import Derived.Test.YtpmbpklbiocclaaGreatGrBF
namespace Go.Proofs.YtpmbpklbiocclaaGreat
open Go.RowKit

def DC.run : DC → List Nat → DC × Nat × Int
  | x, [] => (x, 0, 0)
  | x, m :: r => if (x.step (atB m)).2.2 = 0 then (((x.step (atB m)).1.run r).1, ((x.step (atB m)).1.run r).2.1 + 1, ((x.step (atB m)).1.run r).2.2) else ((x.step (atB m)).1, 0, (x.step (atB m)).2.2)
section
variable {P : Program} {ops : Array Oper} {rest : List Oper} {o : Oper} {a : Act} {w : World} {Q : Exit → Act → World → Prop}
end

end Go.Proofs.YtpmbpklbiocclaaGreat
