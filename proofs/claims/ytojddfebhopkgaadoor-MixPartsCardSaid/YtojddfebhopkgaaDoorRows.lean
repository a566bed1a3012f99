/-
  NARROWER THAN 'FOR EVERY INPUT', by the rows' own cells (each row's printed sentence says how): MixTells: laid · MixSplits: laid · MixGoes: laid · MixAlike: laid · MixParts: laid.
  DERIVED. THE GIVEN ROWS OF THIS SEAT. 5 by the template 'for every input the law returns true; each argument reads behind the call as it read before'; 0 by the template 'total and deterministic' (their statements: YtojddfebhopkgaaDoorTotals.lean).
  GIVEN WITH THE SEED: the statements are not yours to turn. If you find one false, say at which input.
  Laid BY PROGRAM, IN A SANDBOX (cutbox-rows.mjs): the forced cells as the released guide's own fill.sh prints them over the translation 5c5bdeba1d85f414… (all of the seat's roots in one cut). By AI agents, Wed Nov 11 2026. No macro, syntax, notation, axiom, sorry.
-/
import Derived.Test.YtojddfebhopkgaaDoorChecked
import GoSem.Claim
import GoSem.ClaimJoined
import GoSem.ClaimMapViews
import Derived.JoinedTies
import Derived.KernelRfl
namespace Go.Proofs.YtojddfebhopkgaaDoor
/- THE CELL 'sum', in the pinned program and in every row, IS THE sha256 OF THE DUMP (.gsa) THAT YtojddfebhopkgaaDoorProg.lean LOADS. Nothing in Lean hashes anything: it is a label: what it is worth is what the hold of that sum in a sandbox is worth. -/
noncomputable def Tryd.pinned : Pinned := { name := "ytojddfebhopkgaadoor", sum := "5c5bdeba1d85f4141a66a5cfe953b256f8456a801888ba7033bdf85888f36ad8", checked := Tryd.checked }
namespace Rows
def none {H : Type} : Left H := { results := [], args := [] }

/- WHAT THE LISTED PACKAGE-LEVEL VARIABLES READ AS WHEN THE CALL BEGINS. Each datum BY PROGRAM (the guide's laid-datum.mjs) off the statement by which the dump's own 'gosem.cut.vars' lays the variable. In a bare row this is a premise. The card (YtojddfebhopkgaaDoorCards.lean) ties it to the program's text. -/
def laid_math_bits_deBruijn32tab {H : Type} : DataW H := .agg [.lit (.int .u8 0), .lit (.int .u8 1), .lit (.int .u8 28), .lit (.int .u8 2), .lit (.int .u8 29), .lit (.int .u8 14), .lit (.int .u8 24), .lit (.int .u8 3), .lit (.int .u8 30), .lit (.int .u8 22), .lit (.int .u8 20), .lit (.int .u8 15), .lit (.int .u8 25), .lit (.int .u8 17), .lit (.int .u8 4), .lit (.int .u8 8), .lit (.int .u8 31), .lit (.int .u8 27), .lit (.int .u8 13), .lit (.int .u8 23), .lit (.int .u8 21), .lit (.int .u8 19), .lit (.int .u8 16), .lit (.int .u8 7), .lit (.int .u8 26), .lit (.int .u8 12), .lit (.int .u8 18), .lit (.int .u8 6), .lit (.int .u8 11), .lit (.int .u8 5), .lit (.int .u8 10), .lit (.int .u8 9)]

/-- 'escheatlaw02.MixTells': WHATEVER THE INPUT: true; the input reads as it did. -/
def mixTellsSpec : ChangeSpec := { name := "mixTells", fn := fun _ => fun
  | [d1, d2, d3] => { results := [.lit (.bool true)], args := [d1, d2, d3] }
  | _ => none }
def mixTellsRow : OpenClaim := { program := "ytojddfebhopkgaadoor", sum := "5c5bdeba1d85f4141a66a5cfe953b256f8456a801888ba7033bdf85888f36ad8", func := "escheat/escheatlaw02.MixTells", spec := "mixTells", named := ["math/bits.deBruijn32tab"], apart := false, laid := [("math/bits.deBruijn32tab", laid_math_bits_deBruijn32tab)] }
def MixTellsSaid : Prop := mixTellsRow.holds Tryd.pinned (OpenSpec.ofChange mixTellsSpec)

/-- ITS FALSE NEIGHBOUR: 'it returns false'. Refute it at one input. -/
def mixTellsWrong : ChangeSpec := { name := "mixTells", fn := fun _ => fun
  | [d1, d2, d3] => { results := [.lit (.bool false)], args := [d1, d2, d3] }
  | _ => none }
def MixTellsWrongFalsely : Prop := mixTellsRow.holds Tryd.pinned (OpenSpec.ofChange mixTellsWrong)

/-- 'escheatlaw02.MixSplits': WHATEVER THE INPUT: true; the input reads as it did. -/
def mixSplitsSpec : ChangeSpec := { name := "mixSplits", fn := fun _ => fun
  | [d1, d2] => { results := [.lit (.bool true)], args := [d1, d2] }
  | _ => none }
def mixSplitsRow : OpenClaim := { program := "ytojddfebhopkgaadoor", sum := "5c5bdeba1d85f4141a66a5cfe953b256f8456a801888ba7033bdf85888f36ad8", func := "escheat/escheatlaw02.MixSplits", spec := "mixSplits", unfollowed := true, recurses := true, named := ["math/bits.deBruijn32tab"], apart := false, laid := [("math/bits.deBruijn32tab", laid_math_bits_deBruijn32tab)] }
def MixSplitsSaid : Prop := mixSplitsRow.holds Tryd.pinned (OpenSpec.ofChange mixSplitsSpec)

/-- ITS FALSE NEIGHBOUR: 'it returns false'. Refute it at one input. -/
def mixSplitsWrong : ChangeSpec := { name := "mixSplits", fn := fun _ => fun
  | [d1, d2] => { results := [.lit (.bool false)], args := [d1, d2] }
  | _ => none }
def MixSplitsWrongFalsely : Prop := mixSplitsRow.holds Tryd.pinned (OpenSpec.ofChange mixSplitsWrong)

/-- 'escheatlaw02.MixGoes': WHATEVER THE INPUT: true; the input reads as it did. -/
def mixGoesSpec : ChangeSpec := { name := "mixGoes", fn := fun _ => fun
  | [d1, d2] => { results := [.lit (.bool true)], args := [d1, d2] }
  | _ => none }
def mixGoesRow : OpenClaim := { program := "ytojddfebhopkgaadoor", sum := "5c5bdeba1d85f4141a66a5cfe953b256f8456a801888ba7033bdf85888f36ad8", func := "escheat/escheatlaw02.MixGoes", spec := "mixGoes", named := ["math/bits.deBruijn32tab"], apart := false, laid := [("math/bits.deBruijn32tab", laid_math_bits_deBruijn32tab)] }
def MixGoesSaid : Prop := mixGoesRow.holds Tryd.pinned (OpenSpec.ofChange mixGoesSpec)

/-- ITS FALSE NEIGHBOUR: 'it returns false'. Refute it at one input. -/
def mixGoesWrong : ChangeSpec := { name := "mixGoes", fn := fun _ => fun
  | [d1, d2] => { results := [.lit (.bool false)], args := [d1, d2] }
  | _ => none }
def MixGoesWrongFalsely : Prop := mixGoesRow.holds Tryd.pinned (OpenSpec.ofChange mixGoesWrong)

/-- 'escheatlaw02.MixAlike': WHATEVER THE INPUT: true; the input reads as it did. -/
def mixAlikeSpec : ChangeSpec := { name := "mixAlike", fn := fun _ => fun
  | [d1, d2] => { results := [.lit (.bool true)], args := [d1, d2] }
  | _ => none }
def mixAlikeRow : OpenClaim := { program := "ytojddfebhopkgaadoor", sum := "5c5bdeba1d85f4141a66a5cfe953b256f8456a801888ba7033bdf85888f36ad8", func := "escheat/escheatlaw02.MixAlike", spec := "mixAlike", named := ["math/bits.deBruijn32tab"], apart := false, laid := [("math/bits.deBruijn32tab", laid_math_bits_deBruijn32tab)] }
def MixAlikeSaid : Prop := mixAlikeRow.holds Tryd.pinned (OpenSpec.ofChange mixAlikeSpec)

/-- ITS FALSE NEIGHBOUR: 'it returns false'. Refute it at one input. -/
def mixAlikeWrong : ChangeSpec := { name := "mixAlike", fn := fun _ => fun
  | [d1, d2] => { results := [.lit (.bool false)], args := [d1, d2] }
  | _ => none }
def MixAlikeWrongFalsely : Prop := mixAlikeRow.holds Tryd.pinned (OpenSpec.ofChange mixAlikeWrong)

/-- 'escheatlaw02.MixParts': WHATEVER THE INPUT: true; the input reads as it did. -/
def mixPartsSpec : ChangeSpec := { name := "mixParts", fn := fun _ => fun
  | [d1, d2] => { results := [.lit (.bool true)], args := [d1, d2] }
  | _ => none }
def mixPartsRow : OpenClaim := { program := "ytojddfebhopkgaadoor", sum := "5c5bdeba1d85f4141a66a5cfe953b256f8456a801888ba7033bdf85888f36ad8", func := "escheat/escheatlaw02.MixParts", spec := "mixParts", unfollowed := true, recurses := true, named := ["math/bits.deBruijn32tab"], apart := false, laid := [("math/bits.deBruijn32tab", laid_math_bits_deBruijn32tab)] }
def MixPartsSaid : Prop := mixPartsRow.holds Tryd.pinned (OpenSpec.ofChange mixPartsSpec)

/-- ITS FALSE NEIGHBOUR: 'it returns false'. Refute it at one input. -/
def mixPartsWrong : ChangeSpec := { name := "mixParts", fn := fun _ => fun
  | [d1, d2] => { results := [.lit (.bool false)], args := [d1, d2] }
  | _ => none }
def MixPartsWrongFalsely : Prop := mixPartsRow.holds Tryd.pinned (OpenSpec.ofChange mixPartsWrong)

/- THE SECOND FORM. 'bulk': how many values and letters a reading holds, each counted each time it is reached (what is shared counts as often as it is met; a slice's spare places count too). A statement '..UptoSaid' is the law's where the arguments, and the package variables that the reading takes, are together of bulk at most 1048576: NARROWER than '..Said'. Prove '..Said' where nothing that the law and all that it calls make is longer than what came in: it says more and counts as full. Else prove '..UptoSaid'. A law counts once. -/
mutual
def uptoBulk {H : Type} : DataW H → Nat
  | .lit (.string bytes) => bytes.length + 1
  | .lit _ => 1
  | .nil => 1
  | .ptr d => uptoBulk d + 1
  | .slice elems spare => uptoBulkAll elems + uptoBulkAll spare + 1
  | .agg parts => uptoBulkAll parts + 1
  | .iface _ d => uptoBulk d + 1
  | .map entries => uptoBulkEntries entries + 1
  | .held _ => 1
def uptoBulkAll {H : Type} : List (DataW H) → Nat
  | [] => 0
  | d :: r => uptoBulk d + uptoBulkAll r
def uptoBulkEntries {H : Type} : List (Lit × DataW H) → Nat
  | [] => 0
  | x :: r => uptoBulkEntry x + uptoBulkEntries r
def uptoBulkEntry {H : Type} : Lit × DataW H → Nat
  | (.string bytes, d) => bytes.length + uptoBulk d + 1
  | (_, d) => uptoBulk d + 1
 end
def uptoSmall : (H : Type) → List (DataW H) → Bool := fun _ ds => decide (uptoBulkAll ds ≤ 1048576)
def OpenSpec.upto (s : _root_.Go.ChangeSpec) : _root_.Go.OpenSpec := { _root_.Go.OpenSpec.ofChange s with cond := some uptoSmall }

/-- 'escheatlaw02.MixTells', WHERE WHAT IT READS IS OF BULK AT MOST 1048576: true; the input reads as it did. -/
def mixTellsUptoRow : OpenClaim := { program := "ytojddfebhopkgaadoor", sum := "5c5bdeba1d85f4141a66a5cfe953b256f8456a801888ba7033bdf85888f36ad8", func := "escheat/escheatlaw02.MixTells", spec := "mixTells", named := ["math/bits.deBruijn32tab"], apart := false, laid := [("math/bits.deBruijn32tab", laid_math_bits_deBruijn32tab)], narrowed := true }
def MixTellsUptoSaid : Prop := mixTellsUptoRow.holds Tryd.pinned (OpenSpec.upto mixTellsSpec)

/-- 'escheatlaw02.MixSplits', WHERE WHAT IT READS IS OF BULK AT MOST 1048576: true; the input reads as it did. -/
def mixSplitsUptoRow : OpenClaim := { program := "ytojddfebhopkgaadoor", sum := "5c5bdeba1d85f4141a66a5cfe953b256f8456a801888ba7033bdf85888f36ad8", func := "escheat/escheatlaw02.MixSplits", spec := "mixSplits", unfollowed := true, recurses := true, named := ["math/bits.deBruijn32tab"], apart := false, laid := [("math/bits.deBruijn32tab", laid_math_bits_deBruijn32tab)], narrowed := true }
def MixSplitsUptoSaid : Prop := mixSplitsUptoRow.holds Tryd.pinned (OpenSpec.upto mixSplitsSpec)

/-- 'escheatlaw02.MixGoes', WHERE WHAT IT READS IS OF BULK AT MOST 1048576: true; the input reads as it did. -/
def mixGoesUptoRow : OpenClaim := { program := "ytojddfebhopkgaadoor", sum := "5c5bdeba1d85f4141a66a5cfe953b256f8456a801888ba7033bdf85888f36ad8", func := "escheat/escheatlaw02.MixGoes", spec := "mixGoes", named := ["math/bits.deBruijn32tab"], apart := false, laid := [("math/bits.deBruijn32tab", laid_math_bits_deBruijn32tab)], narrowed := true }
def MixGoesUptoSaid : Prop := mixGoesUptoRow.holds Tryd.pinned (OpenSpec.upto mixGoesSpec)

/-- 'escheatlaw02.MixAlike', WHERE WHAT IT READS IS OF BULK AT MOST 1048576: true; the input reads as it did. -/
def mixAlikeUptoRow : OpenClaim := { program := "ytojddfebhopkgaadoor", sum := "5c5bdeba1d85f4141a66a5cfe953b256f8456a801888ba7033bdf85888f36ad8", func := "escheat/escheatlaw02.MixAlike", spec := "mixAlike", named := ["math/bits.deBruijn32tab"], apart := false, laid := [("math/bits.deBruijn32tab", laid_math_bits_deBruijn32tab)], narrowed := true }
def MixAlikeUptoSaid : Prop := mixAlikeUptoRow.holds Tryd.pinned (OpenSpec.upto mixAlikeSpec)

/-- 'escheatlaw02.MixParts', WHERE WHAT IT READS IS OF BULK AT MOST 1048576: true; the input reads as it did. -/
def mixPartsUptoRow : OpenClaim := { program := "ytojddfebhopkgaadoor", sum := "5c5bdeba1d85f4141a66a5cfe953b256f8456a801888ba7033bdf85888f36ad8", func := "escheat/escheatlaw02.MixParts", spec := "mixParts", unfollowed := true, recurses := true, named := ["math/bits.deBruijn32tab"], apart := false, laid := [("math/bits.deBruijn32tab", laid_math_bits_deBruijn32tab)], narrowed := true }
def MixPartsUptoSaid : Prop := mixPartsUptoRow.holds Tryd.pinned (OpenSpec.upto mixPartsSpec)

end Rows
end Go.Proofs.YtojddfebhopkgaaDoor
