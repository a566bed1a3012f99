/-
  DERIVED. GIVEN WITH THE SEED: THE CARDS: each row of YtojddfebhopkgaaDoorRows.lean that lists a variable, with what it lists TIED to the program's text (the seventh form; the later family's looks); each row that meets fmt, with fmt's text TOLD by the authors' own Lean function (tested against real Go, not proved from fmt's source: count such statements apart). THE CARD IS WHAT COUNTS. Prove the row's statement (the work); the ties are given (YtojddfebhopkgaaDoorTie.lean); close each card by the builder's one call (the guide's Derived/Test/ToyasCard.lean, 'card_holds'). Laid BY PROGRAM, IN A SANDBOX (cutbox-door.mjs). By AI agents, Wed Nov 11 2026. No macro, syntax, notation, axiom, sorry.
-/
import Derived.Test.YtojddfebhopkgaaDoorRows
import GoSem.ClaimSeven
namespace Go.Proofs.YtojddfebhopkgaaDoor
namespace Rows

/-- THE TIED CARD OF 'escheatlaw02.MixTells'. -/
def mixTellsCard : Claim7 := { stood := { row := mixTellsRow, standIns := [], harness := (true, "20f59cf0df57c0672217343a1901155b1f13a0089a1b36640a8db5d2abe068b3"), looks := false }, kinds := [], alts := [], laidByText := true, laidKinds := [.data], laidTests := true, laidLooks := .later }
def MixTellsCardSaid : Prop := Claim7.holds Tryd.pinned (.plain (OpenSpec.ofChange mixTellsSpec)) mixTellsCard

/-- THE TIED CARD OF 'escheatlaw02.MixSplits'. -/
def mixSplitsCard : Claim7 := { stood := { row := mixSplitsRow, standIns := [], harness := (true, "20f59cf0df57c0672217343a1901155b1f13a0089a1b36640a8db5d2abe068b3"), looks := false }, kinds := [], alts := [], laidByText := true, laidKinds := [.data], laidTests := true, laidLooks := .later }
def MixSplitsCardSaid : Prop := Claim7.holds Tryd.pinned (.plain (OpenSpec.ofChange mixSplitsSpec)) mixSplitsCard

/-- THE TIED CARD OF 'escheatlaw02.MixGoes'. -/
def mixGoesCard : Claim7 := { stood := { row := mixGoesRow, standIns := [], harness := (true, "20f59cf0df57c0672217343a1901155b1f13a0089a1b36640a8db5d2abe068b3"), looks := false }, kinds := [], alts := [], laidByText := true, laidKinds := [.data], laidTests := true, laidLooks := .later }
def MixGoesCardSaid : Prop := Claim7.holds Tryd.pinned (.plain (OpenSpec.ofChange mixGoesSpec)) mixGoesCard

/-- THE TIED CARD OF 'escheatlaw02.MixAlike'. -/
def mixAlikeCard : Claim7 := { stood := { row := mixAlikeRow, standIns := [], harness := (true, "20f59cf0df57c0672217343a1901155b1f13a0089a1b36640a8db5d2abe068b3"), looks := false }, kinds := [], alts := [], laidByText := true, laidKinds := [.data], laidTests := true, laidLooks := .later }
def MixAlikeCardSaid : Prop := Claim7.holds Tryd.pinned (.plain (OpenSpec.ofChange mixAlikeSpec)) mixAlikeCard

/-- THE TIED CARD OF 'escheatlaw02.MixParts'. -/
def mixPartsCard : Claim7 := { stood := { row := mixPartsRow, standIns := [], harness := (true, "20f59cf0df57c0672217343a1901155b1f13a0089a1b36640a8db5d2abe068b3"), looks := false }, kinds := [], alts := [], laidByText := true, laidKinds := [.data], laidTests := true, laidLooks := .later }
def MixPartsCardSaid : Prop := Claim7.holds Tryd.pinned (.plain (OpenSpec.ofChange mixPartsSpec)) mixPartsCard

/-- THE SECOND FORM's CARD OF 'escheatlaw02.MixTells'. -/
def mixTellsUptoCard : Claim7 := { stood := { row := mixTellsUptoRow, standIns := [], harness := (true, "20f59cf0df57c0672217343a1901155b1f13a0089a1b36640a8db5d2abe068b3"), looks := false }, kinds := [], alts := [], laidByText := true, laidKinds := [.data], laidTests := true, laidLooks := .later }
def MixTellsUptoCardSaid : Prop := Claim7.holds Tryd.pinned (.plain (OpenSpec.upto mixTellsSpec)) mixTellsUptoCard

/-- THE SECOND FORM's CARD OF 'escheatlaw02.MixSplits'. -/
def mixSplitsUptoCard : Claim7 := { stood := { row := mixSplitsUptoRow, standIns := [], harness := (true, "20f59cf0df57c0672217343a1901155b1f13a0089a1b36640a8db5d2abe068b3"), looks := false }, kinds := [], alts := [], laidByText := true, laidKinds := [.data], laidTests := true, laidLooks := .later }
def MixSplitsUptoCardSaid : Prop := Claim7.holds Tryd.pinned (.plain (OpenSpec.upto mixSplitsSpec)) mixSplitsUptoCard

/-- THE SECOND FORM's CARD OF 'escheatlaw02.MixGoes'. -/
def mixGoesUptoCard : Claim7 := { stood := { row := mixGoesUptoRow, standIns := [], harness := (true, "20f59cf0df57c0672217343a1901155b1f13a0089a1b36640a8db5d2abe068b3"), looks := false }, kinds := [], alts := [], laidByText := true, laidKinds := [.data], laidTests := true, laidLooks := .later }
def MixGoesUptoCardSaid : Prop := Claim7.holds Tryd.pinned (.plain (OpenSpec.upto mixGoesSpec)) mixGoesUptoCard

/-- THE SECOND FORM's CARD OF 'escheatlaw02.MixAlike'. -/
def mixAlikeUptoCard : Claim7 := { stood := { row := mixAlikeUptoRow, standIns := [], harness := (true, "20f59cf0df57c0672217343a1901155b1f13a0089a1b36640a8db5d2abe068b3"), looks := false }, kinds := [], alts := [], laidByText := true, laidKinds := [.data], laidTests := true, laidLooks := .later }
def MixAlikeUptoCardSaid : Prop := Claim7.holds Tryd.pinned (.plain (OpenSpec.upto mixAlikeSpec)) mixAlikeUptoCard

/-- THE SECOND FORM's CARD OF 'escheatlaw02.MixParts'. -/
def mixPartsUptoCard : Claim7 := { stood := { row := mixPartsUptoRow, standIns := [], harness := (true, "20f59cf0df57c0672217343a1901155b1f13a0089a1b36640a8db5d2abe068b3"), looks := false }, kinds := [], alts := [], laidByText := true, laidKinds := [.data], laidTests := true, laidLooks := .later }
def MixPartsUptoCardSaid : Prop := Claim7.holds Tryd.pinned (.plain (OpenSpec.upto mixPartsSpec)) mixPartsUptoCard
end Rows
end Go.Proofs.YtojddfebhopkgaaDoor
