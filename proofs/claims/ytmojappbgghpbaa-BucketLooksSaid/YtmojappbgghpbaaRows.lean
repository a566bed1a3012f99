/-
  No cell of these rows narrows 'for every input' (looked for: loops, veiled, ifaces, maps, wideKeys, modest, calm, conditions, laid).
  DERIVED. THE GIVEN ROWS OF THIS SEAT. 5 by the template 'for every input the law returns true; each argument reads behind the call as it read before'; 0 by the template 'total and deterministic' (their statements: YtmojappbgghpbaaTotals.lean).
  GIVEN WITH THE SEED: the statements are not yours to turn. If you find one false, say at which input.
  Laid BY PROGRAM, IN A SANDBOX (cutbox-rows.mjs): the forced cells as the released guide's own fill.sh prints them over the translation 29c4a26ca79534b5… (all of the seat's roots in one cut). By AI agents, Wed Nov 11 2026. No macro, syntax, notation, axiom, sorry.
-/
import Derived.Test.YtmojappbgghpbaaChecked
import GoSem.Claim
import GoSem.ClaimJoined
import GoSem.ClaimMapViews
import Derived.JoinedTies
import Derived.KernelRfl
namespace Go.Proofs.Ytmojappbgghpbaa
/- THE CELL 'sum', in the pinned program and in every row, IS THE sha256 OF THE DUMP (.gsa) THAT YtmojappbgghpbaaProg.lean LOADS. Nothing in Lean hashes anything: it is a label: what it is worth is what the hold of that sum in a sandbox is worth. -/
noncomputable def Try.pinned : Pinned := { name := "ytmojappbgghpbaa", sum := "29c4a26ca79534b599bf8de1686400bdb9bc8fe8bebb156b67dae83bccccc29f", checked := Try.checked }
namespace Rows
def none {H : Type} : Left H := { results := [], args := [] }

/-- 'escheatlaw18.BucketNews': WHATEVER THE INPUT: true; the input reads as it did. -/
def bucketNewsSpec : ChangeSpec := { name := "bucketNews", fn := fun _ => fun
  | [d] => { results := [.lit (.bool true)], args := [d] }
  | _ => none }
def bucketNewsRow : OpenClaim := { program := "ytmojappbgghpbaa", sum := "29c4a26ca79534b599bf8de1686400bdb9bc8fe8bebb156b67dae83bccccc29f", func := "escheat/escheatlaw18.BucketNews", spec := "bucketNews", apart := false }
def BucketNewsSaid : Prop := bucketNewsRow.holds Try.pinned (OpenSpec.ofChange bucketNewsSpec)

/-- ITS FALSE NEIGHBOUR: 'it returns false'. Refute it at one input. -/
def bucketNewsWrong : ChangeSpec := { name := "bucketNews", fn := fun _ => fun
  | [d] => { results := [.lit (.bool false)], args := [d] }
  | _ => none }
def BucketNewsWrongFalsely : Prop := bucketNewsRow.holds Try.pinned (OpenSpec.ofChange bucketNewsWrong)

/-- 'escheatlaw18.BucketLooks': WHATEVER THE INPUT: true; the input reads as it did. -/
def bucketLooksSpec : ChangeSpec := { name := "bucketLooks", fn := fun _ => fun
  | [d1, d2] => { results := [.lit (.bool true)], args := [d1, d2] }
  | _ => none }
def bucketLooksRow : OpenClaim := { program := "ytmojappbgghpbaa", sum := "29c4a26ca79534b599bf8de1686400bdb9bc8fe8bebb156b67dae83bccccc29f", func := "escheat/escheatlaw18.BucketLooks", spec := "bucketLooks", apart := false }
def BucketLooksSaid : Prop := bucketLooksRow.holds Try.pinned (OpenSpec.ofChange bucketLooksSpec)

/-- ITS FALSE NEIGHBOUR: 'it returns false'. Refute it at one input. -/
def bucketLooksWrong : ChangeSpec := { name := "bucketLooks", fn := fun _ => fun
  | [d1, d2] => { results := [.lit (.bool false)], args := [d1, d2] }
  | _ => none }
def BucketLooksWrongFalsely : Prop := bucketLooksRow.holds Try.pinned (OpenSpec.ofChange bucketLooksWrong)

/-- 'escheatlaw18.BucketPatches': WHATEVER THE INPUT: true; the input reads as it did. -/
def bucketPatchesSpec : ChangeSpec := { name := "bucketPatches", fn := fun _ => fun
  | [d1, d2] => { results := [.lit (.bool true)], args := [d1, d2] }
  | _ => none }
def bucketPatchesRow : OpenClaim := { program := "ytmojappbgghpbaa", sum := "29c4a26ca79534b599bf8de1686400bdb9bc8fe8bebb156b67dae83bccccc29f", func := "escheat/escheatlaw18.BucketPatches", spec := "bucketPatches", apart := false }
def BucketPatchesSaid : Prop := bucketPatchesRow.holds Try.pinned (OpenSpec.ofChange bucketPatchesSpec)

/-- ITS FALSE NEIGHBOUR: 'it returns false'. Refute it at one input. -/
def bucketPatchesWrong : ChangeSpec := { name := "bucketPatches", fn := fun _ => fun
  | [d1, d2] => { results := [.lit (.bool false)], args := [d1, d2] }
  | _ => none }
def BucketPatchesWrongFalsely : Prop := bucketPatchesRow.holds Try.pinned (OpenSpec.ofChange bucketPatchesWrong)

/-- 'escheatlaw18.BucketFixes': WHATEVER THE INPUT: true; the input reads as it did. -/
def bucketFixesSpec : ChangeSpec := { name := "bucketFixes", fn := fun _ => fun
  | [d1, d2] => { results := [.lit (.bool true)], args := [d1, d2] }
  | _ => none }
def bucketFixesRow : OpenClaim := { program := "ytmojappbgghpbaa", sum := "29c4a26ca79534b599bf8de1686400bdb9bc8fe8bebb156b67dae83bccccc29f", func := "escheat/escheatlaw18.BucketFixes", spec := "bucketFixes", apart := false }
def BucketFixesSaid : Prop := bucketFixesRow.holds Try.pinned (OpenSpec.ofChange bucketFixesSpec)

/-- ITS FALSE NEIGHBOUR: 'it returns false'. Refute it at one input. -/
def bucketFixesWrong : ChangeSpec := { name := "bucketFixes", fn := fun _ => fun
  | [d1, d2] => { results := [.lit (.bool false)], args := [d1, d2] }
  | _ => none }
def BucketFixesWrongFalsely : Prop := bucketFixesRow.holds Try.pinned (OpenSpec.ofChange bucketFixesWrong)

/-- 'escheatlaw18.BucketKeeps': WHATEVER THE INPUT: true; the input reads as it did. -/
def bucketKeepsSpec : ChangeSpec := { name := "bucketKeeps", fn := fun _ => fun
  | [d1, d2, d3] => { results := [.lit (.bool true)], args := [d1, d2, d3] }
  | _ => none }
def bucketKeepsRow : OpenClaim := { program := "ytmojappbgghpbaa", sum := "29c4a26ca79534b599bf8de1686400bdb9bc8fe8bebb156b67dae83bccccc29f", func := "escheat/escheatlaw18.BucketKeeps", spec := "bucketKeeps", apart := false }
def BucketKeepsSaid : Prop := bucketKeepsRow.holds Try.pinned (OpenSpec.ofChange bucketKeepsSpec)

/-- ITS FALSE NEIGHBOUR: 'it returns false'. Refute it at one input. -/
def bucketKeepsWrong : ChangeSpec := { name := "bucketKeeps", fn := fun _ => fun
  | [d1, d2, d3] => { results := [.lit (.bool false)], args := [d1, d2, d3] }
  | _ => none }
def BucketKeepsWrongFalsely : Prop := bucketKeepsRow.holds Try.pinned (OpenSpec.ofChange bucketKeepsWrong)

/- THE SECOND FORM. 'bulk': how many values and letters a reading holds, each counted each time it is reached (what is shared counts as often as it is met; a slice's spare places count too). A statement '..UptoSaid' is the law's where the arguments, and the package variables that the reading takes, are together of bulk at most 1048576: NARROWER than '..Said'. Prove '..Said' where nothing that the law and all that it calls make is longer than what came in: it says more and counts as full. Else prove '..UptoSaid'. A law counts once. -/
mutual
def uptoBulk {H : Type} : DataW H → Nat
  | .lit (.string bytes) => bytes.length + 1
  | .lit _ => 1
  | .nil => 1
  | .ptr d => uptoBulk d + 1
  | .slice elems spare => uptoBulkAll elems + uptoBulkAll spare + 1
  | .agg parts => uptoBulkAll parts + 1
  | .iface _ d => uptoBulk d + 1
  | .map entries => uptoBulkEntries entries + 1
  | .held _ => 1
def uptoBulkAll {H : Type} : List (DataW H) → Nat
  | [] => 0
  | d :: r => uptoBulk d + uptoBulkAll r
def uptoBulkEntries {H : Type} : List (Lit × DataW H) → Nat
  | [] => 0
  | x :: r => uptoBulkEntry x + uptoBulkEntries r
def uptoBulkEntry {H : Type} : Lit × DataW H → Nat
  | (.string bytes, d) => bytes.length + uptoBulk d + 1
  | (_, d) => uptoBulk d + 1
 end
def uptoSmall : (H : Type) → List (DataW H) → Bool := fun _ ds => decide (uptoBulkAll ds ≤ 1048576)
def OpenSpec.upto (s : _root_.Go.ChangeSpec) : _root_.Go.OpenSpec := { _root_.Go.OpenSpec.ofChange s with cond := some uptoSmall }

/-- 'escheatlaw18.BucketNews', WHERE WHAT IT READS IS OF BULK AT MOST 1048576: true; the input reads as it did. -/
def bucketNewsUptoRow : OpenClaim := { program := "ytmojappbgghpbaa", sum := "29c4a26ca79534b599bf8de1686400bdb9bc8fe8bebb156b67dae83bccccc29f", func := "escheat/escheatlaw18.BucketNews", spec := "bucketNews", apart := false, narrowed := true }
def BucketNewsUptoSaid : Prop := bucketNewsUptoRow.holds Try.pinned (OpenSpec.upto bucketNewsSpec)

/-- 'escheatlaw18.BucketLooks', WHERE WHAT IT READS IS OF BULK AT MOST 1048576: true; the input reads as it did. -/
def bucketLooksUptoRow : OpenClaim := { program := "ytmojappbgghpbaa", sum := "29c4a26ca79534b599bf8de1686400bdb9bc8fe8bebb156b67dae83bccccc29f", func := "escheat/escheatlaw18.BucketLooks", spec := "bucketLooks", apart := false, narrowed := true }
def BucketLooksUptoSaid : Prop := bucketLooksUptoRow.holds Try.pinned (OpenSpec.upto bucketLooksSpec)

/-- 'escheatlaw18.BucketPatches', WHERE WHAT IT READS IS OF BULK AT MOST 1048576: true; the input reads as it did. -/
def bucketPatchesUptoRow : OpenClaim := { program := "ytmojappbgghpbaa", sum := "29c4a26ca79534b599bf8de1686400bdb9bc8fe8bebb156b67dae83bccccc29f", func := "escheat/escheatlaw18.BucketPatches", spec := "bucketPatches", apart := false, narrowed := true }
def BucketPatchesUptoSaid : Prop := bucketPatchesUptoRow.holds Try.pinned (OpenSpec.upto bucketPatchesSpec)

/-- 'escheatlaw18.BucketFixes', WHERE WHAT IT READS IS OF BULK AT MOST 1048576: true; the input reads as it did. -/
def bucketFixesUptoRow : OpenClaim := { program := "ytmojappbgghpbaa", sum := "29c4a26ca79534b599bf8de1686400bdb9bc8fe8bebb156b67dae83bccccc29f", func := "escheat/escheatlaw18.BucketFixes", spec := "bucketFixes", apart := false, narrowed := true }
def BucketFixesUptoSaid : Prop := bucketFixesUptoRow.holds Try.pinned (OpenSpec.upto bucketFixesSpec)

/-- 'escheatlaw18.BucketKeeps', WHERE WHAT IT READS IS OF BULK AT MOST 1048576: true; the input reads as it did. -/
def bucketKeepsUptoRow : OpenClaim := { program := "ytmojappbgghpbaa", sum := "29c4a26ca79534b599bf8de1686400bdb9bc8fe8bebb156b67dae83bccccc29f", func := "escheat/escheatlaw18.BucketKeeps", spec := "bucketKeeps", apart := false, narrowed := true }
def BucketKeepsUptoSaid : Prop := bucketKeepsUptoRow.holds Try.pinned (OpenSpec.upto bucketKeepsSpec)

end Rows
end Go.Proofs.Ytmojappbgghpbaa
