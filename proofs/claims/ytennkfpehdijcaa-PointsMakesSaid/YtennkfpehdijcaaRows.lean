/-
  No cell of these rows narrows 'for every input' (looked for: loops, veiled, ifaces, maps, wideKeys, modest, calm, conditions, laid).
  DERIVED. THE GIVEN ROWS OF THIS SEAT. 4 by the template 'for every input the law returns true; each argument reads behind the call as it read before'; 0 by the template 'total and deterministic' (their statements: YtennkfpehdijcaaTotals.lean).
  GIVEN WITH THE SEED: the statements are not yours to turn. If you find one false, say at which input.
  Laid BY PROGRAM, IN A SANDBOX (cutbox-rows.mjs): the forced cells as the released guide's own fill.sh prints them over the translation 27cc769fa5489515… (all of the seat's roots in one cut). By AI agents, Wed Nov 11 2026. No macro, syntax, notation, axiom, sorry.
-/
import Derived.Test.YtennkfpehdijcaaChecked
import GoSem.Claim
import GoSem.ClaimJoined
import GoSem.ClaimMapViews
import Derived.JoinedTies
import Derived.KernelRfl
namespace Go.Proofs.Ytennkfpehdijcaa
/- THE CELL 'sum', in the pinned program and in every row, IS THE sha256 OF THE DUMP (.gsa) THAT YtennkfpehdijcaaProg.lean LOADS. Nothing in Lean hashes anything: it is a label: what it is worth is what the hold of that sum in a sandbox is worth. -/
noncomputable def Try.pinned : Pinned := { name := "ytennkfpehdijcaa", sum := "27cc769fa548951599bc79ee337bce61d160c98be191966862411dd9cd5e85c9", checked := Try.checked }
namespace Rows
def none {H : Type} : Left H := { results := [], args := [] }

/-- 'escheatlaw20.PointsLooks': WHATEVER THE INPUT: true; the input reads as it did. -/
def pointsLooksSpec : ChangeSpec := { name := "pointsLooks", fn := fun _ => fun
  | [d1, d2, d3] => { results := [.lit (.bool true)], args := [d1, d2, d3] }
  | _ => none }
def pointsLooksRow : OpenClaim := { program := "ytennkfpehdijcaa", sum := "27cc769fa548951599bc79ee337bce61d160c98be191966862411dd9cd5e85c9", func := "escheat/escheatlaw20.PointsLooks", spec := "pointsLooks", unfollowed := true, recurses := true, apart := false }
def PointsLooksSaid : Prop := pointsLooksRow.holds Try.pinned (OpenSpec.ofChange pointsLooksSpec)

/-- ITS FALSE NEIGHBOUR: 'it returns false'. Refute it at one input. -/
def pointsLooksWrong : ChangeSpec := { name := "pointsLooks", fn := fun _ => fun
  | [d1, d2, d3] => { results := [.lit (.bool false)], args := [d1, d2, d3] }
  | _ => none }
def PointsLooksWrongFalsely : Prop := pointsLooksRow.holds Try.pinned (OpenSpec.ofChange pointsLooksWrong)

/-- 'escheatlaw20.PointsPuts': WHATEVER THE INPUT: true; the input reads as it did. -/
def pointsPutsSpec : ChangeSpec := { name := "pointsPuts", fn := fun _ => fun
  | [d1, d2, d3] => { results := [.lit (.bool true)], args := [d1, d2, d3] }
  | _ => none }
def pointsPutsRow : OpenClaim := { program := "ytennkfpehdijcaa", sum := "27cc769fa548951599bc79ee337bce61d160c98be191966862411dd9cd5e85c9", func := "escheat/escheatlaw20.PointsPuts", spec := "pointsPuts", apart := false }
def PointsPutsSaid : Prop := pointsPutsRow.holds Try.pinned (OpenSpec.ofChange pointsPutsSpec)

/-- ITS FALSE NEIGHBOUR: 'it returns false'. Refute it at one input. -/
def pointsPutsWrong : ChangeSpec := { name := "pointsPuts", fn := fun _ => fun
  | [d1, d2, d3] => { results := [.lit (.bool false)], args := [d1, d2, d3] }
  | _ => none }
def PointsPutsWrongFalsely : Prop := pointsPutsRow.holds Try.pinned (OpenSpec.ofChange pointsPutsWrong)

/-- 'escheatlaw20.PointsKeeps': WHATEVER THE INPUT: true; the input reads as it did. -/
def pointsKeepsSpec : ChangeSpec := { name := "pointsKeeps", fn := fun _ => fun
  | [d1, d2, d3] => { results := [.lit (.bool true)], args := [d1, d2, d3] }
  | _ => none }
def pointsKeepsRow : OpenClaim := { program := "ytennkfpehdijcaa", sum := "27cc769fa548951599bc79ee337bce61d160c98be191966862411dd9cd5e85c9", func := "escheat/escheatlaw20.PointsKeeps", spec := "pointsKeeps", unfollowed := true, recurses := true, apart := false }
def PointsKeepsSaid : Prop := pointsKeepsRow.holds Try.pinned (OpenSpec.ofChange pointsKeepsSpec)

/-- ITS FALSE NEIGHBOUR: 'it returns false'. Refute it at one input. -/
def pointsKeepsWrong : ChangeSpec := { name := "pointsKeeps", fn := fun _ => fun
  | [d1, d2, d3] => { results := [.lit (.bool false)], args := [d1, d2, d3] }
  | _ => none }
def PointsKeepsWrongFalsely : Prop := pointsKeepsRow.holds Try.pinned (OpenSpec.ofChange pointsKeepsWrong)

/-- 'escheatlaw20.PointsMakes': WHATEVER THE INPUT: true; the input reads as it did. -/
def pointsMakesSpec : ChangeSpec := { name := "pointsMakes", fn := fun _ => fun
  | [d] => { results := [.lit (.bool true)], args := [d] }
  | _ => none }
def pointsMakesRow : OpenClaim := { program := "ytennkfpehdijcaa", sum := "27cc769fa548951599bc79ee337bce61d160c98be191966862411dd9cd5e85c9", func := "escheat/escheatlaw20.PointsMakes", spec := "pointsMakes", apart := false }
def PointsMakesSaid : Prop := pointsMakesRow.holds Try.pinned (OpenSpec.ofChange pointsMakesSpec)

/-- ITS FALSE NEIGHBOUR: 'it returns false'. Refute it at one input. -/
def pointsMakesWrong : ChangeSpec := { name := "pointsMakes", fn := fun _ => fun
  | [d] => { results := [.lit (.bool false)], args := [d] }
  | _ => none }
def PointsMakesWrongFalsely : Prop := pointsMakesRow.holds Try.pinned (OpenSpec.ofChange pointsMakesWrong)

/- THE SECOND FORM. 'bulk': how many values and letters a reading holds, each counted each time it is reached (what is shared counts as often as it is met; a slice's spare places count too). A statement '..UptoSaid' is the law's where the arguments, and the package variables that the reading takes, are together of bulk at most 1048576: NARROWER than '..Said'. Prove '..Said' where nothing that the law and all that it calls make is longer than what came in: it says more and counts as full. Else prove '..UptoSaid'. A law counts once. -/
mutual
def uptoBulk {H : Type} : DataW H → Nat
  | .lit (.string bytes) => bytes.length + 1
  | .lit _ => 1
  | .nil => 1
  | .ptr d => uptoBulk d + 1
  | .slice elems spare => uptoBulkAll elems + uptoBulkAll spare + 1
  | .agg parts => uptoBulkAll parts + 1
  | .iface _ d => uptoBulk d + 1
  | .map entries => uptoBulkEntries entries + 1
  | .held _ => 1
def uptoBulkAll {H : Type} : List (DataW H) → Nat
  | [] => 0
  | d :: r => uptoBulk d + uptoBulkAll r
def uptoBulkEntries {H : Type} : List (Lit × DataW H) → Nat
  | [] => 0
  | x :: r => uptoBulkEntry x + uptoBulkEntries r
def uptoBulkEntry {H : Type} : Lit × DataW H → Nat
  | (.string bytes, d) => bytes.length + uptoBulk d + 1
  | (_, d) => uptoBulk d + 1
 end
def uptoSmall : (H : Type) → List (DataW H) → Bool := fun _ ds => decide (uptoBulkAll ds ≤ 1048576)
def OpenSpec.upto (s : _root_.Go.ChangeSpec) : _root_.Go.OpenSpec := { _root_.Go.OpenSpec.ofChange s with cond := some uptoSmall }

/-- 'escheatlaw20.PointsLooks', WHERE WHAT IT READS IS OF BULK AT MOST 1048576: true; the input reads as it did. -/
def pointsLooksUptoRow : OpenClaim := { program := "ytennkfpehdijcaa", sum := "27cc769fa548951599bc79ee337bce61d160c98be191966862411dd9cd5e85c9", func := "escheat/escheatlaw20.PointsLooks", spec := "pointsLooks", unfollowed := true, recurses := true, apart := false, narrowed := true }
def PointsLooksUptoSaid : Prop := pointsLooksUptoRow.holds Try.pinned (OpenSpec.upto pointsLooksSpec)

/-- 'escheatlaw20.PointsPuts', WHERE WHAT IT READS IS OF BULK AT MOST 1048576: true; the input reads as it did. -/
def pointsPutsUptoRow : OpenClaim := { program := "ytennkfpehdijcaa", sum := "27cc769fa548951599bc79ee337bce61d160c98be191966862411dd9cd5e85c9", func := "escheat/escheatlaw20.PointsPuts", spec := "pointsPuts", apart := false, narrowed := true }
def PointsPutsUptoSaid : Prop := pointsPutsUptoRow.holds Try.pinned (OpenSpec.upto pointsPutsSpec)

/-- 'escheatlaw20.PointsKeeps', WHERE WHAT IT READS IS OF BULK AT MOST 1048576: true; the input reads as it did. -/
def pointsKeepsUptoRow : OpenClaim := { program := "ytennkfpehdijcaa", sum := "27cc769fa548951599bc79ee337bce61d160c98be191966862411dd9cd5e85c9", func := "escheat/escheatlaw20.PointsKeeps", spec := "pointsKeeps", unfollowed := true, recurses := true, apart := false, narrowed := true }
def PointsKeepsUptoSaid : Prop := pointsKeepsUptoRow.holds Try.pinned (OpenSpec.upto pointsKeepsSpec)

/-- 'escheatlaw20.PointsMakes', WHERE WHAT IT READS IS OF BULK AT MOST 1048576: true; the input reads as it did. -/
def pointsMakesUptoRow : OpenClaim := { program := "ytennkfpehdijcaa", sum := "27cc769fa548951599bc79ee337bce61d160c98be191966862411dd9cd5e85c9", func := "escheat/escheatlaw20.PointsMakes", spec := "pointsMakes", apart := false, narrowed := true }
def PointsMakesUptoSaid : Prop := pointsMakesUptoRow.holds Try.pinned (OpenSpec.upto pointsMakesSpec)

end Rows
end Go.Proofs.Ytennkfpehdijcaa
