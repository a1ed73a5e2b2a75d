/-
  DERIVED. GIVEN WITH THE SEED: THE CARDS: each row of YtmfkdpfcpdmkdaaDoorRows.lean that lists a variable, with what it lists TIED to the program's text (the seventh form; the later family's looks); each row that meets fmt, with fmt's text TOLD by the authors' own Lean function (tested against real Go, not proved from fmt's source: count such statements apart). THE CARD IS WHAT COUNTS. Prove the row's statement (the work); the ties are given (YtmfkdpfcpdmkdaaDoorTie.lean); close each card by the builder's one call (the guide's Derived/Test/ToyasCard.lean, 'card_holds'). Laid BY PROGRAM, IN A SANDBOX (cutbox-door.mjs). By AI agents, Wed Nov 11 2026. No macro, syntax, notation, axiom, sorry.
-/
import Derived.Test.YtmfkdpfcpdmkdaaDoorRows
import GoSem.ClaimSeven
namespace Go.Proofs.YtmfkdpfcpdmkdaaDoor
namespace Rows

/-- THE TIED CARD OF 'padlockkeep.BoundsHold'. -/
def boundsHoldCard : Claim7 := { stood := { row := boundsHoldRow, standIns := [], harness := (true, "617fdd5223b3f363c9bf3b52804922dab291dcd29dafd3357c3f222db3d3c592"), looks := false }, kinds := [], alts := [], laidByText := true, laidKinds := [.data, .data, .data, .data, .data, .data], laidTests := true, laidLooks := .later }
def BoundsHoldCardSaid : Prop := Claim7.holds Tryd.pinned (.plain (OpenSpec.ofChange boundsHoldSpec)) boundsHoldCard

/-- THE TIED CARD OF 'padlockkeep.BoundsOne'. -/
def boundsOneCard : Claim7 := { stood := { row := boundsOneRow, standIns := [], harness := (true, "617fdd5223b3f363c9bf3b52804922dab291dcd29dafd3357c3f222db3d3c592"), looks := false }, kinds := [], alts := [], laidByText := true, laidKinds := [.data, .data, .data, .data, .data, .data], laidTests := true, laidLooks := .later }
def BoundsOneCardSaid : Prop := Claim7.holds Tryd.pinned (.plain (OpenSpec.ofChange boundsOneSpec)) boundsOneCard

/-- THE TIED CARD OF 'padlockkeep.BoundsBoth'. -/
def boundsBothCard : Claim7 := { stood := { row := boundsBothRow, standIns := [], harness := (true, "617fdd5223b3f363c9bf3b52804922dab291dcd29dafd3357c3f222db3d3c592"), looks := false }, kinds := [], alts := [], laidByText := true, laidKinds := [.data, .data, .data, .data, .data, .data], laidTests := true, laidLooks := .later }
def BoundsBothCardSaid : Prop := Claim7.holds Tryd.pinned (.plain (OpenSpec.ofChange boundsBothSpec)) boundsBothCard

/-- THE TIED CARD OF 'padlockkeep.BoundsNone'. -/
def boundsNoneCard : Claim7 := { stood := { row := boundsNoneRow, standIns := [], harness := (true, "617fdd5223b3f363c9bf3b52804922dab291dcd29dafd3357c3f222db3d3c592"), looks := false }, kinds := [], alts := [], laidByText := true, laidKinds := [.data, .data, .data, .data, .data, .data], laidTests := true, laidLooks := .later }
def BoundsNoneCardSaid : Prop := Claim7.holds Tryd.pinned (.plain (OpenSpec.ofChange boundsNoneSpec)) boundsNoneCard

/-- THE SECOND FORM's CARD OF 'padlockkeep.BoundsHold'. -/
def boundsHoldUptoCard : Claim7 := { stood := { row := boundsHoldUptoRow, standIns := [], harness := (true, "617fdd5223b3f363c9bf3b52804922dab291dcd29dafd3357c3f222db3d3c592"), looks := false }, kinds := [], alts := [], laidByText := true, laidKinds := [.data, .data, .data, .data, .data, .data], laidTests := true, laidLooks := .later }
def BoundsHoldUptoCardSaid : Prop := Claim7.holds Tryd.pinned (.plain (OpenSpec.upto boundsHoldSpec)) boundsHoldUptoCard

/-- THE SECOND FORM's CARD OF 'padlockkeep.BoundsOne'. -/
def boundsOneUptoCard : Claim7 := { stood := { row := boundsOneUptoRow, standIns := [], harness := (true, "617fdd5223b3f363c9bf3b52804922dab291dcd29dafd3357c3f222db3d3c592"), looks := false }, kinds := [], alts := [], laidByText := true, laidKinds := [.data, .data, .data, .data, .data, .data], laidTests := true, laidLooks := .later }
def BoundsOneUptoCardSaid : Prop := Claim7.holds Tryd.pinned (.plain (OpenSpec.upto boundsOneSpec)) boundsOneUptoCard

/-- THE SECOND FORM's CARD OF 'padlockkeep.BoundsBoth'. -/
def boundsBothUptoCard : Claim7 := { stood := { row := boundsBothUptoRow, standIns := [], harness := (true, "617fdd5223b3f363c9bf3b52804922dab291dcd29dafd3357c3f222db3d3c592"), looks := false }, kinds := [], alts := [], laidByText := true, laidKinds := [.data, .data, .data, .data, .data, .data], laidTests := true, laidLooks := .later }
def BoundsBothUptoCardSaid : Prop := Claim7.holds Tryd.pinned (.plain (OpenSpec.upto boundsBothSpec)) boundsBothUptoCard

/-- THE SECOND FORM's CARD OF 'padlockkeep.BoundsNone'. -/
def boundsNoneUptoCard : Claim7 := { stood := { row := boundsNoneUptoRow, standIns := [], harness := (true, "617fdd5223b3f363c9bf3b52804922dab291dcd29dafd3357c3f222db3d3c592"), looks := false }, kinds := [], alts := [], laidByText := true, laidKinds := [.data, .data, .data, .data, .data, .data], laidTests := true, laidLooks := .later }
def BoundsNoneUptoCardSaid : Prop := Claim7.holds Tryd.pinned (.plain (OpenSpec.upto boundsNoneSpec)) boundsNoneUptoCard
end Rows
end Go.Proofs.YtmfkdpfcpdmkdaaDoor
