/-
  No cell of these rows narrows 'for every input' (looked for: loops, veiled, ifaces, maps, wideKeys, modest, calm, conditions, laid).
  DERIVED. THE GIVEN ROWS OF THIS SEAT. 6 by the template 'for every input the law returns true; each argument reads behind the call as it read before'; 0 by the template 'total and deterministic' (their statements: YtnlcpkffaiegaaaTotals.lean).
  GIVEN WITH THE SEED: the statements are not yours to turn. If you find one false, say at which input.
  Laid BY PROGRAM, IN A SANDBOX (cutbox-rows.mjs): the forced cells as the released guide's own fill.sh prints them over the translation be60d82a5577162c… (all of the seat's roots in one cut). By AI agents, Wed Nov 11 2026. No macro, syntax, notation, axiom, sorry.
-/
import Derived.Test.YtnlcpkffaiegaaaChecked
import GoSem.Claim
import GoSem.ClaimJoined
import GoSem.ClaimMapViews
import Derived.JoinedTies
import Derived.KernelRfl
namespace Go.Proofs.Ytnlcpkffaiegaaa
/- THE CELL 'sum', in the pinned program and in every row, IS THE sha256 OF THE DUMP (.gsa) THAT YtnlcpkffaiegaaaProg.lean LOADS. Nothing in Lean hashes anything: it is a label: what it is worth is what the hold of that sum in a sandbox is worth. -/
noncomputable def Try.pinned : Pinned := { name := "ytnlcpkffaiegaaa", sum := "be60d82a5577162ce042ccb46e7886dc82df5046c93fb513fc9c49a1a4f49153", checked := Try.checked }
namespace Rows
def none {H : Type} : Left H := { results := [], args := [] }

/-- 'escheatlaw07.PatchLays': WHATEVER THE INPUT: true; the input reads as it did. -/
def patchLaysSpec : ChangeSpec := { name := "patchLays", fn := fun _ => fun
  | [d1, d2, d3] => { results := [.lit (.bool true)], args := [d1, d2, d3] }
  | _ => none }
def patchLaysRow : OpenClaim := { program := "ytnlcpkffaiegaaa", sum := "be60d82a5577162ce042ccb46e7886dc82df5046c93fb513fc9c49a1a4f49153", func := "escheat/escheatlaw07.PatchLays", spec := "patchLays", apart := false }
def PatchLaysSaid : Prop := patchLaysRow.holds Try.pinned (OpenSpec.ofChange patchLaysSpec)

/-- ITS FALSE NEIGHBOUR: 'it returns false'. Refute it at one input. -/
def patchLaysWrong : ChangeSpec := { name := "patchLays", fn := fun _ => fun
  | [d1, d2, d3] => { results := [.lit (.bool false)], args := [d1, d2, d3] }
  | _ => none }
def PatchLaysWrongFalsely : Prop := patchLaysRow.holds Try.pinned (OpenSpec.ofChange patchLaysWrong)

/-- 'escheatlaw07.PatchAll': WHATEVER THE INPUT: true; the input reads as it did. -/
def patchAllSpec : ChangeSpec := { name := "patchAll", fn := fun _ => fun
  | [d1, d2] => { results := [.lit (.bool true)], args := [d1, d2] }
  | _ => none }
def patchAllRow : OpenClaim := { program := "ytnlcpkffaiegaaa", sum := "be60d82a5577162ce042ccb46e7886dc82df5046c93fb513fc9c49a1a4f49153", func := "escheat/escheatlaw07.PatchAll", spec := "patchAll", apart := false }
def PatchAllSaid : Prop := patchAllRow.holds Try.pinned (OpenSpec.ofChange patchAllSpec)

/-- ITS FALSE NEIGHBOUR: 'it returns false'. Refute it at one input. -/
def patchAllWrong : ChangeSpec := { name := "patchAll", fn := fun _ => fun
  | [d1, d2] => { results := [.lit (.bool false)], args := [d1, d2] }
  | _ => none }
def PatchAllWrongFalsely : Prop := patchAllRow.holds Try.pinned (OpenSpec.ofChange patchAllWrong)

/-- 'escheatlaw07.PatchDiffs': WHATEVER THE INPUT: true; the input reads as it did. -/
def patchDiffsSpec : ChangeSpec := { name := "patchDiffs", fn := fun _ => fun
  | [d1, d2] => { results := [.lit (.bool true)], args := [d1, d2] }
  | _ => none }
def patchDiffsRow : OpenClaim := { program := "ytnlcpkffaiegaaa", sum := "be60d82a5577162ce042ccb46e7886dc82df5046c93fb513fc9c49a1a4f49153", func := "escheat/escheatlaw07.PatchDiffs", spec := "patchDiffs", apart := false }
def PatchDiffsSaid : Prop := patchDiffsRow.holds Try.pinned (OpenSpec.ofChange patchDiffsSpec)

/-- ITS FALSE NEIGHBOUR: 'it returns false'. Refute it at one input. -/
def patchDiffsWrong : ChangeSpec := { name := "patchDiffs", fn := fun _ => fun
  | [d1, d2] => { results := [.lit (.bool false)], args := [d1, d2] }
  | _ => none }
def PatchDiffsWrongFalsely : Prop := patchDiffsRow.holds Try.pinned (OpenSpec.ofChange patchDiffsWrong)

/-- 'escheatlaw07.PatchLeads': WHATEVER THE INPUT: true; the input reads as it did. -/
def patchLeadsSpec : ChangeSpec := { name := "patchLeads", fn := fun _ => fun
  | [d1, d2] => { results := [.lit (.bool true)], args := [d1, d2] }
  | _ => none }
def patchLeadsRow : OpenClaim := { program := "ytnlcpkffaiegaaa", sum := "be60d82a5577162ce042ccb46e7886dc82df5046c93fb513fc9c49a1a4f49153", func := "escheat/escheatlaw07.PatchLeads", spec := "patchLeads", apart := false }
def PatchLeadsSaid : Prop := patchLeadsRow.holds Try.pinned (OpenSpec.ofChange patchLeadsSpec)

/-- ITS FALSE NEIGHBOUR: 'it returns false'. Refute it at one input. -/
def patchLeadsWrong : ChangeSpec := { name := "patchLeads", fn := fun _ => fun
  | [d1, d2] => { results := [.lit (.bool false)], args := [d1, d2] }
  | _ => none }
def PatchLeadsWrongFalsely : Prop := patchLeadsRow.holds Try.pinned (OpenSpec.ofChange patchLeadsWrong)

/-- 'escheatlaw07.PatchBack': WHATEVER THE INPUT: true; the input reads as it did. -/
def patchBackSpec : ChangeSpec := { name := "patchBack", fn := fun _ => fun
  | [d1, d2] => { results := [.lit (.bool true)], args := [d1, d2] }
  | _ => none }
def patchBackRow : OpenClaim := { program := "ytnlcpkffaiegaaa", sum := "be60d82a5577162ce042ccb46e7886dc82df5046c93fb513fc9c49a1a4f49153", func := "escheat/escheatlaw07.PatchBack", spec := "patchBack", apart := false }
def PatchBackSaid : Prop := patchBackRow.holds Try.pinned (OpenSpec.ofChange patchBackSpec)

/-- ITS FALSE NEIGHBOUR: 'it returns false'. Refute it at one input. -/
def patchBackWrong : ChangeSpec := { name := "patchBack", fn := fun _ => fun
  | [d1, d2] => { results := [.lit (.bool false)], args := [d1, d2] }
  | _ => none }
def PatchBackWrongFalsely : Prop := patchBackRow.holds Try.pinned (OpenSpec.ofChange patchBackWrong)

/-- 'escheatlaw07.PatchSwaps': WHATEVER THE INPUT: true; the input reads as it did. -/
def patchSwapsSpec : ChangeSpec := { name := "patchSwaps", fn := fun _ => fun
  | [d1, d2, d3] => { results := [.lit (.bool true)], args := [d1, d2, d3] }
  | _ => none }
def patchSwapsRow : OpenClaim := { program := "ytnlcpkffaiegaaa", sum := "be60d82a5577162ce042ccb46e7886dc82df5046c93fb513fc9c49a1a4f49153", func := "escheat/escheatlaw07.PatchSwaps", spec := "patchSwaps", apart := false }
def PatchSwapsSaid : Prop := patchSwapsRow.holds Try.pinned (OpenSpec.ofChange patchSwapsSpec)

/-- ITS FALSE NEIGHBOUR: 'it returns false'. Refute it at one input. -/
def patchSwapsWrong : ChangeSpec := { name := "patchSwaps", fn := fun _ => fun
  | [d1, d2, d3] => { results := [.lit (.bool false)], args := [d1, d2, d3] }
  | _ => none }
def PatchSwapsWrongFalsely : Prop := patchSwapsRow.holds Try.pinned (OpenSpec.ofChange patchSwapsWrong)

/- THE SECOND FORM. 'bulk': how many values and letters a reading holds, each counted each time it is reached (what is shared counts as often as it is met; a slice's spare places count too). A statement '..UptoSaid' is the law's where the arguments, and the package variables that the reading takes, are together of bulk at most 1048576: NARROWER than '..Said'. Prove '..Said' where nothing that the law and all that it calls make is longer than what came in: it says more and counts as full. Else prove '..UptoSaid'. A law counts once. -/
mutual
def uptoBulk {H : Type} : DataW H → Nat
  | .lit (.string bytes) => bytes.length + 1
  | .lit _ => 1
  | .nil => 1
  | .ptr d => uptoBulk d + 1
  | .slice elems spare => uptoBulkAll elems + uptoBulkAll spare + 1
  | .agg parts => uptoBulkAll parts + 1
  | .iface _ d => uptoBulk d + 1
  | .map entries => uptoBulkEntries entries + 1
  | .held _ => 1
def uptoBulkAll {H : Type} : List (DataW H) → Nat
  | [] => 0
  | d :: r => uptoBulk d + uptoBulkAll r
def uptoBulkEntries {H : Type} : List (Lit × DataW H) → Nat
  | [] => 0
  | x :: r => uptoBulkEntry x + uptoBulkEntries r
def uptoBulkEntry {H : Type} : Lit × DataW H → Nat
  | (.string bytes, d) => bytes.length + uptoBulk d + 1
  | (_, d) => uptoBulk d + 1
 end
def uptoSmall : (H : Type) → List (DataW H) → Bool := fun _ ds => decide (uptoBulkAll ds ≤ 1048576)
def OpenSpec.upto (s : _root_.Go.ChangeSpec) : _root_.Go.OpenSpec := { _root_.Go.OpenSpec.ofChange s with cond := some uptoSmall }

/-- 'escheatlaw07.PatchLays', WHERE WHAT IT READS IS OF BULK AT MOST 1048576: true; the input reads as it did. -/
def patchLaysUptoRow : OpenClaim := { program := "ytnlcpkffaiegaaa", sum := "be60d82a5577162ce042ccb46e7886dc82df5046c93fb513fc9c49a1a4f49153", func := "escheat/escheatlaw07.PatchLays", spec := "patchLays", apart := false, narrowed := true }
def PatchLaysUptoSaid : Prop := patchLaysUptoRow.holds Try.pinned (OpenSpec.upto patchLaysSpec)

/-- 'escheatlaw07.PatchAll', WHERE WHAT IT READS IS OF BULK AT MOST 1048576: true; the input reads as it did. -/
def patchAllUptoRow : OpenClaim := { program := "ytnlcpkffaiegaaa", sum := "be60d82a5577162ce042ccb46e7886dc82df5046c93fb513fc9c49a1a4f49153", func := "escheat/escheatlaw07.PatchAll", spec := "patchAll", apart := false, narrowed := true }
def PatchAllUptoSaid : Prop := patchAllUptoRow.holds Try.pinned (OpenSpec.upto patchAllSpec)

/-- 'escheatlaw07.PatchDiffs', WHERE WHAT IT READS IS OF BULK AT MOST 1048576: true; the input reads as it did. -/
def patchDiffsUptoRow : OpenClaim := { program := "ytnlcpkffaiegaaa", sum := "be60d82a5577162ce042ccb46e7886dc82df5046c93fb513fc9c49a1a4f49153", func := "escheat/escheatlaw07.PatchDiffs", spec := "patchDiffs", apart := false, narrowed := true }
def PatchDiffsUptoSaid : Prop := patchDiffsUptoRow.holds Try.pinned (OpenSpec.upto patchDiffsSpec)

/-- 'escheatlaw07.PatchLeads', WHERE WHAT IT READS IS OF BULK AT MOST 1048576: true; the input reads as it did. -/
def patchLeadsUptoRow : OpenClaim := { program := "ytnlcpkffaiegaaa", sum := "be60d82a5577162ce042ccb46e7886dc82df5046c93fb513fc9c49a1a4f49153", func := "escheat/escheatlaw07.PatchLeads", spec := "patchLeads", apart := false, narrowed := true }
def PatchLeadsUptoSaid : Prop := patchLeadsUptoRow.holds Try.pinned (OpenSpec.upto patchLeadsSpec)

/-- 'escheatlaw07.PatchBack', WHERE WHAT IT READS IS OF BULK AT MOST 1048576: true; the input reads as it did. -/
def patchBackUptoRow : OpenClaim := { program := "ytnlcpkffaiegaaa", sum := "be60d82a5577162ce042ccb46e7886dc82df5046c93fb513fc9c49a1a4f49153", func := "escheat/escheatlaw07.PatchBack", spec := "patchBack", apart := false, narrowed := true }
def PatchBackUptoSaid : Prop := patchBackUptoRow.holds Try.pinned (OpenSpec.upto patchBackSpec)

/-- 'escheatlaw07.PatchSwaps', WHERE WHAT IT READS IS OF BULK AT MOST 1048576: true; the input reads as it did. -/
def patchSwapsUptoRow : OpenClaim := { program := "ytnlcpkffaiegaaa", sum := "be60d82a5577162ce042ccb46e7886dc82df5046c93fb513fc9c49a1a4f49153", func := "escheat/escheatlaw07.PatchSwaps", spec := "patchSwaps", apart := false, narrowed := true }
def PatchSwapsUptoSaid : Prop := patchSwapsUptoRow.holds Try.pinned (OpenSpec.upto patchSwapsSpec)

end Rows
end Go.Proofs.Ytnlcpkffaiegaaa
