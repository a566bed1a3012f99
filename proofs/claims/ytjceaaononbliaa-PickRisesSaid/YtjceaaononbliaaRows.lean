/-
  No cell of these rows narrows 'for every input' (looked for: loops, veiled, ifaces, maps, wideKeys, modest, calm, conditions, laid).
  DERIVED. THE GIVEN ROWS OF THIS SEAT. 6 by the template 'for every input the law returns true; each argument reads behind the call as it read before'; 0 by the template 'total and deterministic' (their statements: YtjceaaononbliaaTotals.lean).
  GIVEN WITH THE SEED: the statements are not yours to turn. If you find one false, say at which input.
  Laid BY PROGRAM, IN A SANDBOX (cutbox-rows.mjs): the forced cells as the released guide's own fill.sh prints them over the translation 0d4af50d8422b8c8… (all of the seat's roots in one cut). By AI agents, Wed Nov 11 2026. No macro, syntax, notation, axiom, sorry.
-/
import Derived.Test.YtjceaaononbliaaChecked
import GoSem.Claim
import GoSem.ClaimJoined
import GoSem.ClaimMapViews
import Derived.JoinedTies
import Derived.KernelRfl
namespace Go.Proofs.Ytjceaaononbliaa
/- THE CELL 'sum', in the pinned program and in every row, IS THE sha256 OF THE DUMP (.gsa) THAT YtjceaaononbliaaProg.lean LOADS. Nothing in Lean hashes anything: it is a label: what it is worth is what the hold of that sum in a sandbox is worth. -/
noncomputable def Try.pinned : Pinned := { name := "ytjceaaononbliaa", sum := "0d4af50d8422b8c8c6f8851934faad4f38a5201f3616f513fc54fc7983eb65f3", checked := Try.checked }
namespace Rows
def none {H : Type} : Left H := { results := [], args := [] }

/-- 'escheatlaw06.PickAt': WHATEVER THE INPUT: true; the input reads as it did. -/
def pickAtSpec : ChangeSpec := { name := "pickAt", fn := fun _ => fun
  | [d1, d2] => { results := [.lit (.bool true)], args := [d1, d2] }
  | _ => none }
def pickAtRow : OpenClaim := { program := "ytjceaaononbliaa", sum := "0d4af50d8422b8c8c6f8851934faad4f38a5201f3616f513fc54fc7983eb65f3", func := "escheat/escheatlaw06.PickAt", spec := "pickAt", inPlace := ["math.Float64bits", "math.Float64frombits"], unfollowed := true, recurses := true, apart := false }
def PickAtSaid : Prop := pickAtRow.holds Try.pinned (OpenSpec.ofChange pickAtSpec)

/-- ITS FALSE NEIGHBOUR: 'it returns false'. Refute it at one input. -/
def pickAtWrong : ChangeSpec := { name := "pickAt", fn := fun _ => fun
  | [d1, d2] => { results := [.lit (.bool false)], args := [d1, d2] }
  | _ => none }
def PickAtWrongFalsely : Prop := pickAtRow.holds Try.pinned (OpenSpec.ofChange pickAtWrong)

/-- 'escheatlaw06.PickRanks': WHATEVER THE INPUT: true; the input reads as it did. -/
def pickRanksSpec : ChangeSpec := { name := "pickRanks", fn := fun _ => fun
  | [d1, d2] => { results := [.lit (.bool true)], args := [d1, d2] }
  | _ => none }
def pickRanksRow : OpenClaim := { program := "ytjceaaononbliaa", sum := "0d4af50d8422b8c8c6f8851934faad4f38a5201f3616f513fc54fc7983eb65f3", func := "escheat/escheatlaw06.PickRanks", spec := "pickRanks", inPlace := ["math.Float64bits", "math.Float64frombits"], unfollowed := true, recurses := true, apart := false }
def PickRanksSaid : Prop := pickRanksRow.holds Try.pinned (OpenSpec.ofChange pickRanksSpec)

/-- ITS FALSE NEIGHBOUR: 'it returns false'. Refute it at one input. -/
def pickRanksWrong : ChangeSpec := { name := "pickRanks", fn := fun _ => fun
  | [d1, d2] => { results := [.lit (.bool false)], args := [d1, d2] }
  | _ => none }
def PickRanksWrongFalsely : Prop := pickRanksRow.holds Try.pinned (OpenSpec.ofChange pickRanksWrong)

/-- 'escheatlaw06.PickWorth': WHATEVER THE INPUT: true; the input reads as it did. -/
def pickWorthSpec : ChangeSpec := { name := "pickWorth", fn := fun _ => fun
  | [d1, d2, d3] => { results := [.lit (.bool true)], args := [d1, d2, d3] }
  | _ => none }
def pickWorthRow : OpenClaim := { program := "ytjceaaononbliaa", sum := "0d4af50d8422b8c8c6f8851934faad4f38a5201f3616f513fc54fc7983eb65f3", func := "escheat/escheatlaw06.PickWorth", spec := "pickWorth", inPlace := ["math.Float64frombits", "math.Float64bits"], unfollowed := true, recurses := true, apart := false }
def PickWorthSaid : Prop := pickWorthRow.holds Try.pinned (OpenSpec.ofChange pickWorthSpec)

/-- ITS FALSE NEIGHBOUR: 'it returns false'. Refute it at one input. -/
def pickWorthWrong : ChangeSpec := { name := "pickWorth", fn := fun _ => fun
  | [d1, d2, d3] => { results := [.lit (.bool false)], args := [d1, d2, d3] }
  | _ => none }
def PickWorthWrongFalsely : Prop := pickWorthRow.holds Try.pinned (OpenSpec.ofChange pickWorthWrong)

/-- 'escheatlaw06.PickRises': WHATEVER THE INPUT: true; the input reads as it did. -/
def pickRisesSpec : ChangeSpec := { name := "pickRises", fn := fun _ => fun
  | [d1, d2, d3] => { results := [.lit (.bool true)], args := [d1, d2, d3] }
  | _ => none }
def pickRisesRow : OpenClaim := { program := "ytjceaaononbliaa", sum := "0d4af50d8422b8c8c6f8851934faad4f38a5201f3616f513fc54fc7983eb65f3", func := "escheat/escheatlaw06.PickRises", spec := "pickRises", inPlace := ["math.Float64bits", "math.Float64frombits"], unfollowed := true, recurses := true, apart := false }
def PickRisesSaid : Prop := pickRisesRow.holds Try.pinned (OpenSpec.ofChange pickRisesSpec)

/-- ITS FALSE NEIGHBOUR: 'it returns false'. Refute it at one input. -/
def pickRisesWrong : ChangeSpec := { name := "pickRises", fn := fun _ => fun
  | [d1, d2, d3] => { results := [.lit (.bool false)], args := [d1, d2, d3] }
  | _ => none }
def PickRisesWrongFalsely : Prop := pickRisesRow.holds Try.pinned (OpenSpec.ofChange pickRisesWrong)

/-- 'escheatlaw06.PickOnce': WHATEVER THE INPUT: true; the input reads as it did. -/
def pickOnceSpec : ChangeSpec := { name := "pickOnce", fn := fun _ => fun
  | [d] => { results := [.lit (.bool true)], args := [d] }
  | _ => none }
def pickOnceRow : OpenClaim := { program := "ytjceaaononbliaa", sum := "0d4af50d8422b8c8c6f8851934faad4f38a5201f3616f513fc54fc7983eb65f3", func := "escheat/escheatlaw06.PickOnce", spec := "pickOnce", inPlace := ["math.Float64bits", "math.Float64frombits"], unfollowed := true, recurses := true, apart := false }
def PickOnceSaid : Prop := pickOnceRow.holds Try.pinned (OpenSpec.ofChange pickOnceSpec)

/-- ITS FALSE NEIGHBOUR: 'it returns false'. Refute it at one input. -/
def pickOnceWrong : ChangeSpec := { name := "pickOnce", fn := fun _ => fun
  | [d] => { results := [.lit (.bool false)], args := [d] }
  | _ => none }
def PickOnceWrongFalsely : Prop := pickOnceRow.holds Try.pinned (OpenSpec.ofChange pickOnceWrong)

/-- 'escheatlaw06.PickFewer': WHATEVER THE INPUT: true; the input reads as it did. -/
def pickFewerSpec : ChangeSpec := { name := "pickFewer", fn := fun _ => fun
  | [d1, d2] => { results := [.lit (.bool true)], args := [d1, d2] }
  | _ => none }
def pickFewerRow : OpenClaim := { program := "ytjceaaononbliaa", sum := "0d4af50d8422b8c8c6f8851934faad4f38a5201f3616f513fc54fc7983eb65f3", func := "escheat/escheatlaw06.PickFewer", spec := "pickFewer", inPlace := ["math.Float64frombits", "math.Float64bits"], unfollowed := true, recurses := true, apart := false }
def PickFewerSaid : Prop := pickFewerRow.holds Try.pinned (OpenSpec.ofChange pickFewerSpec)

/-- ITS FALSE NEIGHBOUR: 'it returns false'. Refute it at one input. -/
def pickFewerWrong : ChangeSpec := { name := "pickFewer", fn := fun _ => fun
  | [d1, d2] => { results := [.lit (.bool false)], args := [d1, d2] }
  | _ => none }
def PickFewerWrongFalsely : Prop := pickFewerRow.holds Try.pinned (OpenSpec.ofChange pickFewerWrong)

/- THE SECOND FORM. 'bulk': how many values and letters a reading holds, each counted each time it is reached (what is shared counts as often as it is met; a slice's spare places count too). A statement '..UptoSaid' is the law's where the arguments, and the package variables that the reading takes, are together of bulk at most 1048576: NARROWER than '..Said'. Prove '..Said' where nothing that the law and all that it calls make is longer than what came in: it says more and counts as full. Else prove '..UptoSaid'. A law counts once. -/
mutual
def uptoBulk {H : Type} : DataW H → Nat
  | .lit (.string bytes) => bytes.length + 1
  | .lit _ => 1
  | .nil => 1
  | .ptr d => uptoBulk d + 1
  | .slice elems spare => uptoBulkAll elems + uptoBulkAll spare + 1
  | .agg parts => uptoBulkAll parts + 1
  | .iface _ d => uptoBulk d + 1
  | .map entries => uptoBulkEntries entries + 1
  | .held _ => 1
def uptoBulkAll {H : Type} : List (DataW H) → Nat
  | [] => 0
  | d :: r => uptoBulk d + uptoBulkAll r
def uptoBulkEntries {H : Type} : List (Lit × DataW H) → Nat
  | [] => 0
  | x :: r => uptoBulkEntry x + uptoBulkEntries r
def uptoBulkEntry {H : Type} : Lit × DataW H → Nat
  | (.string bytes, d) => bytes.length + uptoBulk d + 1
  | (_, d) => uptoBulk d + 1
 end
def uptoSmall : (H : Type) → List (DataW H) → Bool := fun _ ds => decide (uptoBulkAll ds ≤ 1048576)
def OpenSpec.upto (s : _root_.Go.ChangeSpec) : _root_.Go.OpenSpec := { _root_.Go.OpenSpec.ofChange s with cond := some uptoSmall }

/-- 'escheatlaw06.PickAt', WHERE WHAT IT READS IS OF BULK AT MOST 1048576: true; the input reads as it did. -/
def pickAtUptoRow : OpenClaim := { program := "ytjceaaononbliaa", sum := "0d4af50d8422b8c8c6f8851934faad4f38a5201f3616f513fc54fc7983eb65f3", func := "escheat/escheatlaw06.PickAt", spec := "pickAt", inPlace := ["math.Float64bits", "math.Float64frombits"], unfollowed := true, recurses := true, apart := false, narrowed := true }
def PickAtUptoSaid : Prop := pickAtUptoRow.holds Try.pinned (OpenSpec.upto pickAtSpec)

/-- 'escheatlaw06.PickRanks', WHERE WHAT IT READS IS OF BULK AT MOST 1048576: true; the input reads as it did. -/
def pickRanksUptoRow : OpenClaim := { program := "ytjceaaononbliaa", sum := "0d4af50d8422b8c8c6f8851934faad4f38a5201f3616f513fc54fc7983eb65f3", func := "escheat/escheatlaw06.PickRanks", spec := "pickRanks", inPlace := ["math.Float64bits", "math.Float64frombits"], unfollowed := true, recurses := true, apart := false, narrowed := true }
def PickRanksUptoSaid : Prop := pickRanksUptoRow.holds Try.pinned (OpenSpec.upto pickRanksSpec)

/-- 'escheatlaw06.PickWorth', WHERE WHAT IT READS IS OF BULK AT MOST 1048576: true; the input reads as it did. -/
def pickWorthUptoRow : OpenClaim := { program := "ytjceaaononbliaa", sum := "0d4af50d8422b8c8c6f8851934faad4f38a5201f3616f513fc54fc7983eb65f3", func := "escheat/escheatlaw06.PickWorth", spec := "pickWorth", inPlace := ["math.Float64frombits", "math.Float64bits"], unfollowed := true, recurses := true, apart := false, narrowed := true }
def PickWorthUptoSaid : Prop := pickWorthUptoRow.holds Try.pinned (OpenSpec.upto pickWorthSpec)

/-- 'escheatlaw06.PickRises', WHERE WHAT IT READS IS OF BULK AT MOST 1048576: true; the input reads as it did. -/
def pickRisesUptoRow : OpenClaim := { program := "ytjceaaononbliaa", sum := "0d4af50d8422b8c8c6f8851934faad4f38a5201f3616f513fc54fc7983eb65f3", func := "escheat/escheatlaw06.PickRises", spec := "pickRises", inPlace := ["math.Float64bits", "math.Float64frombits"], unfollowed := true, recurses := true, apart := false, narrowed := true }
def PickRisesUptoSaid : Prop := pickRisesUptoRow.holds Try.pinned (OpenSpec.upto pickRisesSpec)

/-- 'escheatlaw06.PickOnce', WHERE WHAT IT READS IS OF BULK AT MOST 1048576: true; the input reads as it did. -/
def pickOnceUptoRow : OpenClaim := { program := "ytjceaaononbliaa", sum := "0d4af50d8422b8c8c6f8851934faad4f38a5201f3616f513fc54fc7983eb65f3", func := "escheat/escheatlaw06.PickOnce", spec := "pickOnce", inPlace := ["math.Float64bits", "math.Float64frombits"], unfollowed := true, recurses := true, apart := false, narrowed := true }
def PickOnceUptoSaid : Prop := pickOnceUptoRow.holds Try.pinned (OpenSpec.upto pickOnceSpec)

/-- 'escheatlaw06.PickFewer', WHERE WHAT IT READS IS OF BULK AT MOST 1048576: true; the input reads as it did. -/
def pickFewerUptoRow : OpenClaim := { program := "ytjceaaononbliaa", sum := "0d4af50d8422b8c8c6f8851934faad4f38a5201f3616f513fc54fc7983eb65f3", func := "escheat/escheatlaw06.PickFewer", spec := "pickFewer", inPlace := ["math.Float64frombits", "math.Float64bits"], unfollowed := true, recurses := true, apart := false, narrowed := true }
def PickFewerUptoSaid : Prop := pickFewerUptoRow.holds Try.pinned (OpenSpec.upto pickFewerSpec)

end Rows
end Go.Proofs.Ytjceaaononbliaa
