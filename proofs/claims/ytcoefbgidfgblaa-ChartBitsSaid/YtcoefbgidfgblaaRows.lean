/-
  No cell of these rows narrows 'for every input' (looked for: loops, veiled, ifaces, maps, wideKeys, modest, calm, conditions, laid).
  DERIVED. THE GIVEN ROWS OF THIS SEAT. 5 by the template 'for every input the law returns true; each argument reads behind the call as it read before'; 0 by the template 'total and deterministic' (their statements: YtcoefbgidfgblaaTotals.lean).
  GIVEN WITH THE SEED: the statements are not yours to turn. If you find one false, say at which input.
  Laid BY PROGRAM, IN A SANDBOX (cutbox-rows.mjs): the forced cells as the released guide's own fill.sh prints them over the translation 5049fbef1b7b87a8… (all of the seat's roots in one cut). By AI agents, Wed Nov 11 2026. No macro, syntax, notation, axiom, sorry.
-/
import Derived.Test.YtcoefbgidfgblaaChecked
import GoSem.Claim
import GoSem.ClaimJoined
import GoSem.ClaimMapViews
import Derived.JoinedTies
import Derived.KernelRfl
namespace Go.Proofs.Ytcoefbgidfgblaa
/- THE CELL 'sum', in the pinned program and in every row, IS THE sha256 OF THE DUMP (.gsa) THAT YtcoefbgidfgblaaProg.lean LOADS. Nothing in Lean hashes anything: it is a label: what it is worth is what the hold of that sum in a sandbox is worth. -/
noncomputable def Try.pinned : Pinned := { name := "ytcoefbgidfgblaa", sum := "5049fbef1b7b87a806d54bfe86176df116a3f5af4f91674c2b979715a81251cb", checked := Try.checked }
namespace Rows
def none {H : Type} : Left H := { results := [], args := [] }

/-- 'escheatlaw04.ChartBits': WHATEVER THE INPUT: true; the input reads as it did. -/
def chartBitsSpec : ChangeSpec := { name := "chartBits", fn := fun _ => fun
  | [d1, d2, d3] => { results := [.lit (.bool true)], args := [d1, d2, d3] }
  | _ => none }
def chartBitsRow : OpenClaim := { program := "ytcoefbgidfgblaa", sum := "5049fbef1b7b87a806d54bfe86176df116a3f5af4f91674c2b979715a81251cb", func := "escheat/escheatlaw04.ChartBits", spec := "chartBits", apart := false }
def ChartBitsSaid : Prop := chartBitsRow.holds Try.pinned (OpenSpec.ofChange chartBitsSpec)

/-- ITS FALSE NEIGHBOUR: 'it returns false'. Refute it at one input. -/
def chartBitsWrong : ChangeSpec := { name := "chartBits", fn := fun _ => fun
  | [d1, d2, d3] => { results := [.lit (.bool false)], args := [d1, d2, d3] }
  | _ => none }
def ChartBitsWrongFalsely : Prop := chartBitsRow.holds Try.pinned (OpenSpec.ofChange chartBitsWrong)

/-- 'escheatlaw04.ChartLooks': WHATEVER THE INPUT: true; the input reads as it did. -/
def chartLooksSpec : ChangeSpec := { name := "chartLooks", fn := fun _ => fun
  | [d1, d2, d3] => { results := [.lit (.bool true)], args := [d1, d2, d3] }
  | _ => none }
def chartLooksRow : OpenClaim := { program := "ytcoefbgidfgblaa", sum := "5049fbef1b7b87a806d54bfe86176df116a3f5af4f91674c2b979715a81251cb", func := "escheat/escheatlaw04.ChartLooks", spec := "chartLooks", apart := false }
def ChartLooksSaid : Prop := chartLooksRow.holds Try.pinned (OpenSpec.ofChange chartLooksSpec)

/-- ITS FALSE NEIGHBOUR: 'it returns false'. Refute it at one input. -/
def chartLooksWrong : ChangeSpec := { name := "chartLooks", fn := fun _ => fun
  | [d1, d2, d3] => { results := [.lit (.bool false)], args := [d1, d2, d3] }
  | _ => none }
def ChartLooksWrongFalsely : Prop := chartLooksRow.holds Try.pinned (OpenSpec.ofChange chartLooksWrong)

/-- 'escheatlaw04.ChartMakes': WHATEVER THE INPUT: true; the input reads as it did. -/
def chartMakesSpec : ChangeSpec := { name := "chartMakes", fn := fun _ => fun
  | [d] => { results := [.lit (.bool true)], args := [d] }
  | _ => none }
def chartMakesRow : OpenClaim := { program := "ytcoefbgidfgblaa", sum := "5049fbef1b7b87a806d54bfe86176df116a3f5af4f91674c2b979715a81251cb", func := "escheat/escheatlaw04.ChartMakes", spec := "chartMakes", apart := false }
def ChartMakesSaid : Prop := chartMakesRow.holds Try.pinned (OpenSpec.ofChange chartMakesSpec)

/-- ITS FALSE NEIGHBOUR: 'it returns false'. Refute it at one input. -/
def chartMakesWrong : ChangeSpec := { name := "chartMakes", fn := fun _ => fun
  | [d] => { results := [.lit (.bool false)], args := [d] }
  | _ => none }
def ChartMakesWrongFalsely : Prop := chartMakesRow.holds Try.pinned (OpenSpec.ofChange chartMakesWrong)

/-- 'escheatlaw04.ChartApart': WHATEVER THE INPUT: true; the input reads as it did. -/
def chartApartSpec : ChangeSpec := { name := "chartApart", fn := fun _ => fun
  | [d1, d2, d3] => { results := [.lit (.bool true)], args := [d1, d2, d3] }
  | _ => none }
def chartApartRow : OpenClaim := { program := "ytcoefbgidfgblaa", sum := "5049fbef1b7b87a806d54bfe86176df116a3f5af4f91674c2b979715a81251cb", func := "escheat/escheatlaw04.ChartApart", spec := "chartApart", apart := false }
def ChartApartSaid : Prop := chartApartRow.holds Try.pinned (OpenSpec.ofChange chartApartSpec)

/-- ITS FALSE NEIGHBOUR: 'it returns false'. Refute it at one input. -/
def chartApartWrong : ChangeSpec := { name := "chartApart", fn := fun _ => fun
  | [d1, d2, d3] => { results := [.lit (.bool false)], args := [d1, d2, d3] }
  | _ => none }
def ChartApartWrongFalsely : Prop := chartApartRow.holds Try.pinned (OpenSpec.ofChange chartApartWrong)

/-- 'escheatlaw04.ChartFull': WHATEVER THE INPUT: true; the input reads as it did. -/
def chartFullSpec : ChangeSpec := { name := "chartFull", fn := fun _ => fun
  | [d1, d2, d3] => { results := [.lit (.bool true)], args := [d1, d2, d3] }
  | _ => none }
def chartFullRow : OpenClaim := { program := "ytcoefbgidfgblaa", sum := "5049fbef1b7b87a806d54bfe86176df116a3f5af4f91674c2b979715a81251cb", func := "escheat/escheatlaw04.ChartFull", spec := "chartFull", apart := false }
def ChartFullSaid : Prop := chartFullRow.holds Try.pinned (OpenSpec.ofChange chartFullSpec)

/-- ITS FALSE NEIGHBOUR: 'it returns false'. Refute it at one input. -/
def chartFullWrong : ChangeSpec := { name := "chartFull", fn := fun _ => fun
  | [d1, d2, d3] => { results := [.lit (.bool false)], args := [d1, d2, d3] }
  | _ => none }
def ChartFullWrongFalsely : Prop := chartFullRow.holds Try.pinned (OpenSpec.ofChange chartFullWrong)

/- THE SECOND FORM. 'bulk': how many values and letters a reading holds, each counted each time it is reached (what is shared counts as often as it is met; a slice's spare places count too). A statement '..UptoSaid' is the law's where the arguments, and the package variables that the reading takes, are together of bulk at most 1048576: NARROWER than '..Said'. Prove '..Said' where nothing that the law and all that it calls make is longer than what came in: it says more and counts as full. Else prove '..UptoSaid'. A law counts once. -/
mutual
def uptoBulk {H : Type} : DataW H → Nat
  | .lit (.string bytes) => bytes.length + 1
  | .lit _ => 1
  | .nil => 1
  | .ptr d => uptoBulk d + 1
  | .slice elems spare => uptoBulkAll elems + uptoBulkAll spare + 1
  | .agg parts => uptoBulkAll parts + 1
  | .iface _ d => uptoBulk d + 1
  | .map entries => uptoBulkEntries entries + 1
  | .held _ => 1
def uptoBulkAll {H : Type} : List (DataW H) → Nat
  | [] => 0
  | d :: r => uptoBulk d + uptoBulkAll r
def uptoBulkEntries {H : Type} : List (Lit × DataW H) → Nat
  | [] => 0
  | x :: r => uptoBulkEntry x + uptoBulkEntries r
def uptoBulkEntry {H : Type} : Lit × DataW H → Nat
  | (.string bytes, d) => bytes.length + uptoBulk d + 1
  | (_, d) => uptoBulk d + 1
 end
def uptoSmall : (H : Type) → List (DataW H) → Bool := fun _ ds => decide (uptoBulkAll ds ≤ 1048576)
def OpenSpec.upto (s : _root_.Go.ChangeSpec) : _root_.Go.OpenSpec := { _root_.Go.OpenSpec.ofChange s with cond := some uptoSmall }

/-- 'escheatlaw04.ChartBits', WHERE WHAT IT READS IS OF BULK AT MOST 1048576: true; the input reads as it did. -/
def chartBitsUptoRow : OpenClaim := { program := "ytcoefbgidfgblaa", sum := "5049fbef1b7b87a806d54bfe86176df116a3f5af4f91674c2b979715a81251cb", func := "escheat/escheatlaw04.ChartBits", spec := "chartBits", apart := false, narrowed := true }
def ChartBitsUptoSaid : Prop := chartBitsUptoRow.holds Try.pinned (OpenSpec.upto chartBitsSpec)

/-- 'escheatlaw04.ChartLooks', WHERE WHAT IT READS IS OF BULK AT MOST 1048576: true; the input reads as it did. -/
def chartLooksUptoRow : OpenClaim := { program := "ytcoefbgidfgblaa", sum := "5049fbef1b7b87a806d54bfe86176df116a3f5af4f91674c2b979715a81251cb", func := "escheat/escheatlaw04.ChartLooks", spec := "chartLooks", apart := false, narrowed := true }
def ChartLooksUptoSaid : Prop := chartLooksUptoRow.holds Try.pinned (OpenSpec.upto chartLooksSpec)

/-- 'escheatlaw04.ChartMakes', WHERE WHAT IT READS IS OF BULK AT MOST 1048576: true; the input reads as it did. -/
def chartMakesUptoRow : OpenClaim := { program := "ytcoefbgidfgblaa", sum := "5049fbef1b7b87a806d54bfe86176df116a3f5af4f91674c2b979715a81251cb", func := "escheat/escheatlaw04.ChartMakes", spec := "chartMakes", apart := false, narrowed := true }
def ChartMakesUptoSaid : Prop := chartMakesUptoRow.holds Try.pinned (OpenSpec.upto chartMakesSpec)

/-- 'escheatlaw04.ChartApart', WHERE WHAT IT READS IS OF BULK AT MOST 1048576: true; the input reads as it did. -/
def chartApartUptoRow : OpenClaim := { program := "ytcoefbgidfgblaa", sum := "5049fbef1b7b87a806d54bfe86176df116a3f5af4f91674c2b979715a81251cb", func := "escheat/escheatlaw04.ChartApart", spec := "chartApart", apart := false, narrowed := true }
def ChartApartUptoSaid : Prop := chartApartUptoRow.holds Try.pinned (OpenSpec.upto chartApartSpec)

/-- 'escheatlaw04.ChartFull', WHERE WHAT IT READS IS OF BULK AT MOST 1048576: true; the input reads as it did. -/
def chartFullUptoRow : OpenClaim := { program := "ytcoefbgidfgblaa", sum := "5049fbef1b7b87a806d54bfe86176df116a3f5af4f91674c2b979715a81251cb", func := "escheat/escheatlaw04.ChartFull", spec := "chartFull", apart := false, narrowed := true }
def ChartFullUptoSaid : Prop := chartFullUptoRow.holds Try.pinned (OpenSpec.upto chartFullSpec)

end Rows
end Go.Proofs.Ytcoefbgidfgblaa
